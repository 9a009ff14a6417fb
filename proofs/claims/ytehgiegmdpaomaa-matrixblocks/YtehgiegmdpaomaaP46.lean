
/- The document's Stack, of two that are good. (Written by mkndl.py.) -/
import Derived.Test.YtehgiegmdpaomaaP45
import Derived.Test.YtehgiegmdpaomaaP44
import Derived.Test.YtehgiegmdpaomaaP39
import Derived.Test.YtehgiegmdpaomaaP40
import Derived.Test.YtehgiegmdpaomaaP33
namespace Go.Proofs.Ytehgiegmdpaomaa
open Go.RowKit Go.IntWalk

theorem kept_k (p : Prop) : Kept (fun _ => p) := ⟨fun _ _ _ h => h, fun _ _ _ _ _ _ _ _ _ _ _ _ _ h => h⟩
theorem bsd_finF {c r r2 : Nat} {o1 o2 o3 : Nat → Nat} (h1 : finF (c * r) o1 = true) (h2 : finF (c * r2) o2 = true) (h3 : ∀ u v, u < c → v < r + r2 → o3 (u * (r + r2) + v) = if v < r then o1 (u * r + v) else o2 (u * r2 + (v - r))) : finF (c * (r + r2)) o3 = true := by
  rw [finF_iff] at h1 h2 ⊢
  intro k hk
  obtain ⟨q1, q2, q3⟩ := split_k hk
  rw [← q3, h3 _ _ q1 q2]
  by_cases h : k % (r + r2) < r
  · rw [if_pos h]; exact h1 _ (place_lt q1 h)
  · rw [if_neg h]; exact h2 _ (place_lt q1 (by omega))
theorem stk_bsd {c r r2 : Nat} {f f2 o1 o2 o3 : Nat → Nat} (h1 : ∀ i j, i < c → j < r → o1 (i * r + j) = f (j * c + i)) (h2 : ∀ i j, i < c → j < r2 → o2 (i * r2 + j) = f2 (j * c + i)) (h3 : ∀ u v, u < c → v < r + r2 → o3 (u * (r + r2) + v) = if v < r then o1 (u * r + v) else o2 (u * r2 + (v - r))) : ∀ u v, u < c → v < r + r2 → o3 (u * (r + r2) + v) = if v < r then f (v * c + u) else f2 ((v - r) * c + u) := by
  intro u v hu hv
  rw [h3 u v hu hv]
  by_cases h : v < r
  · rw [if_pos h, if_pos h, h1 u v hu h]
  · rw [if_neg h, if_neg h, h2 u (v - r) hu (by omega)]
theorem stk_fin {c r r2 : Nat} {f f2 o3 : Nat → Nat} (h1 : finF (r * c) f = true) (h2 : finF (r2 * c) f2 = true) (h3 : ∀ u v, u < c → v < r + r2 → o3 (u * (r + r2) + v) = if v < r then f (v * c + u) else f2 ((v - r) * c + u)) : finF (c * (r + r2)) o3 = true := by
  rw [finF_iff] at h1 h2 ⊢
  intro k hk
  obtain ⟨q1, q2, q3⟩ := split_k hk
  rw [← q3, h3 _ _ q1 q2]
  by_cases h : k % (r + r2) < r
  · rw [if_pos h]; exact h1 _ (place_lt h q1)
  · rw [if_neg h]; exact h2 _ (place_lt (by omega) q1)
end Go.Proofs.Ytehgiegmdpaomaa

namespace Go.Proofs.Ytehgiegmdpaomaa
open Go.RowKit Go.IntWalk

/-- What Stack tells of any two, and its numbers. -/
def stkT (rx cx : Int) (n : Nat) (xs : List Nat) (ry cy : Int) (m : Nat) (ys : List Nat) : Int := if first2 (chkM rx cx n xs) (chkM ry cy m ys) = 0 then bsdE cx rx cy ry else first2 (chkM rx cx n xs) (chkM ry cy m ys)
def stkV (xs ys : List Nat) (r c : Nat) (u v : Nat) : Nat := if u < r then canonOf (xs.getD (u * c + v) 0) else canonOf (ys.getD ((u - r) * c + v) 0)
theorem stk_can (xs ys : List Nat) (r c u v : Nat) : canonOf (if u < r then xs.getD (u * c + v) 0 else ys.getD ((u - r) * c + v) 0) = stkV xs ys r c u v := by
  unfold stkV
  by_cases h : u < r
  · rw [if_pos h, if_pos h]
  · rw [if_neg h, if_neg h]
theorem Stack_tot (rx cx : Int) (sa : Option Addr) (n ka : Nat) (xs : List Nat) (ry cy : Int) (sb : Option Addr) (m kb : Nat) (ys : List Nat) (w : World) (ha : FlM w sa n ka xs) (hb : FlM w sb m kb ys) (hn : n ≤ 17592186043904) (hm : m ≤ 17592186043904) :
    Calls Try.prog 10 #[.agg #[.int .i64 rx, .int .i64 cx, .slice sa n ka], .agg #[.int .i64 ry, .int .i64 cy, .slice sb m kb]] w fun e w' => (∃ X0 X1 X2 X3 X4, e = .returned (.tuple #[.agg #[.int .i64 X0, .int .i64 X1, .slice X2 X3 X4], .int .i64 (stkT rx cx n xs ry cy m ys)]) ∧ ResM (stkT rx cx n xs ry cy m ys) (rx.toNat + ry.toNat) cx.toNat (stkV xs ys rx.toNat cx.toNat) w' X0 X1 X2 X3 X4) ∧ Below w.heap.size w w' := by
  unfold stkT
  by_cases h : first2 (chkM rx cx n xs) (chkM ry cy m ys) = 0
  · rw [if_pos h]
    obtain ⟨h1, h2⟩ := first2_zero h
    obtain ⟨r, c, rfl, rfl, hga⟩ := gd_of ha h1
    obtain ⟨r2, c2, rfl, rfl, hgb⟩ := gd_of hb h2
    rw [Int.toNat_natCast r, Int.toNat_natCast c, Int.toNat_natCast r2]
    have l1 := hga.1
    have l2 := hgb.1
    by_cases hs : c = c2
    · subst hs
      by_cases ht : r + r2 ≤ 12
      · have e0 : bsdE c r c r2 = 0 := by unfold bsdE; rw [if_neg (fun q => q rfl), if_neg (by omega)]
        rw [e0]
        refine (Stack_ok r c r2 n m sa sb ka kb _ _ w hga hgb ht).mono ?_
        rintro e w' ⟨⟨g, o, rfl, hf, hv⟩, hbb⟩
        refine ⟨⟨_, _, _, _, _, rfl, res_fin hf (fun i j hi hj => ?_) (fun i j hi hj => ?_)⟩, hbb⟩
        · rw [hv i j hi hj]
          exact stk_can _ _ r c i j
        · rw [hv i j hi hj]
          by_cases q : i < r
          · rw [if_pos q]; exact (gd_fin hga _ (place_lt q hj)).2
          · rw [if_neg q]; exact (gd_fin hgb _ (place_lt (by omega) hj)).2
      · have e1 : bsdE c r c r2 = 1 := by unfold bsdE; rw [if_neg (fun q => q rfl), if_pos (by omega)]
        refine (Stack_range r c r2 n m sa sb ka kb _ _ w hga hgb (by omega)).mono ?_
        rintro e w' ⟨rfl, hbb⟩
        obtain ⟨X0, X1, X2, X3, X4, e3, e2⟩ := res_non (r + r2) c (stkV xs ys r c) (bsdE c r c r2) w' (by rw [e1]; decide)
        exact ⟨⟨X0, X1, X2, X3, X4, by rw [← e3, e1], e2⟩, hbb⟩
    · have e1 : bsdE c r c2 r2 = 3 := by unfold bsdE; rw [if_pos (by omega)]
      refine (Stack_shape r c r2 c2 n m sa sb ka kb _ _ w hga hgb hs).mono ?_
      rintro e w' ⟨rfl, hbb⟩
      obtain ⟨X0, X1, X2, X3, X4, e3, e2⟩ := res_non (r + r2) c (stkV xs ys r c) (bsdE c r c2 r2) w' (by rw [e1]; decide)
      exact ⟨⟨X0, X1, X2, X3, X4, by rw [← e3, e1], e2⟩, hbb⟩
  · rw [if_neg h]
    refine (Stack_bad rx cx ry cy n m sa sb ka kb xs ys w ha hb hn hm h).mono ?_
    rintro e w' ⟨rfl, hbb⟩
    obtain ⟨X0, X1, X2, X3, X4, e1, e2⟩ := res_non (rx.toNat + ry.toNat) cx.toNat (stkV xs ys rx.toNat cx.toNat) _ w' h
    exact ⟨⟨X0, X1, X2, X3, X4, by rw [e1], e2⟩, hbb⟩
/-- What Order tells of any matrix and any list, and its numbers. -/
def ordT (rx cx : Int) (n : Nat) (xs : List Nat) (m : Nat) (ps : List Int) : Int := if chkM rx cx n xs = 0 then (if ¬ (rx = cx ∧ (m : Int) = rx) then 3 else if ordB m ps m = true then 0 else 1) else chkM rx cx n xs
def ordV (xs : List Nat) (ps : List Int) (c : Nat) (u v : Nat) : Nat := canonOf (xs.getD ((ps.getD u 0).toNat * c + (ps.getD v 0).toNat) 0)
theorem ord_fin {r n ka g : Nat} {sa : Option Addr} {xs : List Nat} {ps : List Int} {w W : World} {o : Nat → Nat} (hga : Gd w r r sa n ka (fun j => xs.getD j 0)) (ho : ordB r ps r = true) (hf : FnM W (some ⟨g, 0, none⟩) (r * r) (r * r) o) (hv : ∀ u v, u < r → v < r → o (u * r + v) = xs.getD ((ps.getD u 0).toNat * r + (ps.getD v 0).toNat) 0) : ResM 0 r r (ordV xs ps r) W r r (some ⟨g, 0, none⟩) (r * r) (r * r) :=
  res_fin hf (fun i j hi hj => by rw [hv i j hi hj]; rfl) (fun i j hi hj => by
    rw [hv i j hi hj]
    obtain ⟨q1, q2⟩ := ord_at ho hi
    obtain ⟨q3, q4⟩ := ord_at ho hj
    exact (gd_fin hga _ (place_lt (by omega) (by omega))).2)
theorem Order_tot (rx cx : Int) (sa : Option Addr) (n ka : Nat) (xs : List Nat) (pa : Option Addr) (m pc : Nat) (ps : List Int) (w : World) (ha : FlM w sa n ka xs) (hp : I64At w pa m ps) (hn : n ≤ 17592186043904) :
    Calls Try.prog 12 #[.agg #[.int .i64 rx, .int .i64 cx, .slice sa n ka], .slice pa m pc] w fun e w' => (∃ X0 X1 X2 X3 X4, e = .returned (.tuple #[.agg #[.int .i64 X0, .int .i64 X1, .slice X2 X3 X4], .int .i64 (ordT rx cx n xs m ps)]) ∧ ResM (ordT rx cx n xs m ps) rx.toNat rx.toNat (ordV xs ps rx.toNat) w' X0 X1 X2 X3 X4) ∧ Below w.heap.size w w' := by
  unfold ordT
  by_cases h : chkM rx cx n xs = 0
  · rw [if_pos h]
    by_cases hs : rx = cx ∧ (m : Int) = rx
    · rw [if_neg (fun q => q hs)]
      obtain ⟨r, c, rfl, rfl, hga⟩ := gd_of ha h
      obtain ⟨e1, e2⟩ := hs
      obtain rfl : r = c := by omega
      obtain rfl : m = r := by omega
      cases ho : ordB m ps m with
      | true =>
        rw [if_pos rfl, Int.toNat_natCast m]
        refine (Order_ok m n ka pc sa pa _ ps w hga hp ho).mono ?_
        rintro e w' ⟨⟨g, o, rfl, hf, hv⟩, hbb⟩
        exact ⟨⟨_, _, _, _, _, rfl, ord_fin hga ho hf hv⟩, hbb⟩
      | false =>
        rw [if_neg (by decide), Int.toNat_natCast m]
        refine (Order_range m n ka m pc sa pa _ ps w hga rfl hp ho).mono ?_
        rintro e w' ⟨rfl, hbb⟩
        obtain ⟨X0, X1, X2, X3, X4, e3, e4⟩ := res_non m m (ordV xs ps m) 1 w' (by decide)
        exact ⟨⟨X0, X1, X2, X3, X4, by rw [e3], e4⟩, hbb⟩
    · rw [if_pos hs]
      by_cases hq : rx = cx
      · obtain ⟨r, c, rfl, rfl, hga⟩ := gd_of ha h
        obtain rfl : r = c := by omega
        rw [Int.toNat_natCast r]
        refine (Order_len r n ka m pc sa pa _ w hga (fun q => hs ⟨rfl, by omega⟩)).mono ?_
        rintro e w' ⟨rfl, hbb⟩
        obtain ⟨X0, X1, X2, X3, X4, e3, e4⟩ := res_non r r (ordV xs ps r) 3 w' (by decide)
        exact ⟨⟨X0, X1, X2, X3, X4, by rw [e3], e4⟩, hbb⟩
      · obtain ⟨r, c, rfl, rfl, hga⟩ := gd_of ha h
        rw [Int.toNat_natCast r]
        refine (Order_bad r c n ka m pc sa pa 3 w (fun W hW => ?_) (by decide)).mono ?_
        · have := square_good r c n sa ka _ W (hga.below hW)
          rw [if_neg (by omega)] at this
          exact this
        rintro e w' ⟨rfl, hbb⟩
        obtain ⟨X0, X1, X2, X3, X4, e3, e4⟩ := res_non r r (ordV xs ps r) 3 w' (by decide)
        exact ⟨⟨X0, X1, X2, X3, X4, by rw [e3], e4⟩, hbb⟩
  · rw [if_neg h]
    refine (Order_bad rx cx n ka m pc sa pa _ w (fun W hW => square_bad rx cx n sa ka xs W (ha.below hW) hn h) h).mono ?_
    rintro e w' ⟨rfl, hbb⟩
    obtain ⟨X0, X1, X2, X3, X4, e3, e4⟩ := res_non rx.toNat rx.toNat (ordV xs ps rx.toNat) _ w' h
    exact ⟨⟨X0, X1, X2, X3, X4, by rw [e3], e4⟩, hbb⟩
theorem rOrder_tot (rx cx : Int) (sa : Option Addr) (n ka : Nat) (xs : List Nat) (pa : Option Addr) (m pc : Nat) (ps : List Int) (w : World) (ha : FlM w sa n ka xs) (hp : I64At w pa m ps) (h : chkM rx cx n xs = 0) :
    Calls Try.prog 13 #[.agg #[.int .i64 rx, .int .i64 cx, .slice sa n ka], .slice pa m pc] w fun e w' => (∃ X0 X1 X2 X3 X4, e = .returned (.tuple #[.agg #[.int .i64 X0, .int .i64 X1, .slice X2 X3 X4], .int .i64 (ordT rx cx n xs m ps)]) ∧ ResM (ordT rx cx n xs m ps) rx.toNat rx.toNat (ordV xs ps rx.toNat) w' X0 X1 X2 X3 X4) ∧ Below w.heap.size w w' := by
  unfold ordT
  rw [if_pos h]
  by_cases hs : rx = cx ∧ (m : Int) = rx
  · rw [if_neg (fun q => q hs)]
    obtain ⟨r, c, rfl, rfl, hga⟩ := gd_of ha h
    obtain ⟨e1, e2⟩ := hs
    obtain rfl : r = c := by omega
    obtain rfl : m = r := by omega
    rw [Int.toNat_natCast m]
    refine (rOrder_sq m n ka pc sa pa _ ps w hga hp).mono ?_
    rintro e w' ⟨⟨ho, rfl⟩ | ⟨ho, g, o, rfl, hf, hv⟩, hbb⟩
    · rw [ho, if_neg (by decide)]
      obtain ⟨X0, X1, X2, X3, X4, e3, e4⟩ := res_non m m (ordV xs ps m) 1 w' (by decide)
      exact ⟨⟨X0, X1, X2, X3, X4, by rw [← e3]; rfl, e4⟩, hbb⟩
    · rw [ho, if_pos rfl]
      exact ⟨⟨_, _, _, _, _, rfl, ord_fin hga ho hf hv⟩, hbb⟩
  · rw [if_pos hs]
    refine (rOrder_len rx cx n ka m pc sa pa w hs).mono ?_
    rintro e w' ⟨rfl, hbb⟩
    obtain ⟨X0, X1, X2, X3, X4, e3, e4⟩ := res_non rx.toNat rx.toNat (ordV xs ps rx.toNat) 3 w' (by decide)
    exact ⟨⟨X0, X1, X2, X3, X4, by rw [e3], e4⟩, hbb⟩
end Go.Proofs.Ytehgiegmdpaomaa
