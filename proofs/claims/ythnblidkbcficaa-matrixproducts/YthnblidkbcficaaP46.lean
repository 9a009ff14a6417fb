
/- The document's Sandwich. -/
import Derived.Test.YthnblidkbcficaaP44
import Derived.Test.YthnblidkbcficaaP45
namespace Go.Proofs.Ythnblidkbcficaa
open Go.RowKit Go.IntWalk

set_option maxRecDepth 4000 in
set_option maxHeartbeats 1000000 in
theorem rSand_shape (r c r2 c2 : Int) (n n2 : Nat) (sa sb : Option Addr) (ka kb : Nat) (w : World) (hs : r2 ≠ c2 ∨ c ≠ r2) :
    Calls Try.prog 60 #[MV r c sa n ka, MV r2 c2 sb n2 kb] w fun e w' => e = .returned (NonM 3) ∧ Below w.heap.size w w' := by
  obtain ⟨t1, t2, t3, t4, t5⟩ := three_b w (MBox r c sa n ka) (MBox r2 c2 sb n2 kb) (MBox 0 0 none 0 0)
  obtain ⟨V, hV⟩ : ∃ V, Hid (((w.alloc (MBox r c sa n ka)).alloc (MBox r2 c2 sb n2 kb)).alloc (MBox 0 0 none 0 0) = V) := ⟨_, rfl⟩
  rw [hV.out] at t1 t2 t3 t4 t5
  have hV' := hV.out
  have HB := hid t4
  obtain ⟨x0, x1, x2⟩ := mcells_of t1
  obtain ⟨v0, v1, v2⟩ := mcells_of t2
  obtain ⟨r0, r1, r2'⟩ := mcells_of t3
  have fz := frzM t3
  unfold MBox at hV'
  unfold NonM
  unfold MV
  clear t1 t2 t3 t4 t5
  by_cases h1 : r2 = c2
  · have hne : (c != r2) = true := by simp; rcases hs with h | h <;> omega
    have hn1 : (r2 != c2) = false := by simp; omega
    clear hs h1
    go_enter Try.func60, Try.ntmps60
    go_wp2_with fail
    exact bodyPost_ret (v := .tuple #[MV 0 0 none 0 0, .int .i64 3]) (by simp [results, Try.results60, go_sem, r0, r1, r2', MV]) rfl ⟨rfl, StoM.below HB.out (by omega)⟩
  · have hne : (r2 != c2) = true := by simp; omega
    clear hs h1
    go_enter Try.func60, Try.ntmps60
    go_wp2_with fail
    exact bodyPost_ret (v := .tuple #[MV 0 0 none 0 0, .int .i64 3]) (by simp [results, Try.results60, go_sem, r0, r1, r2', MV]) rfl ⟨rfl, StoM.below HB.out (by omega)⟩
set_option maxRecDepth 4000 in
set_option maxHeartbeats 1000000 in
theorem rSand_ok (r c n n2 : Nat) (sa sb : Option Addr) (ka kb : Nat) (f f2 : Nat → Nat) (w : World) (ha : Gd w r c sa n ka f) (hb : Gd w c c sb n2 kb f2) :
    Calls Try.prog 60 #[MV r c sa n ka, MV c c sb n2 kb] w fun e w' => (∃ (g : Nat) (o : Nat → Nat), e = .returned (AnsM r r (r * r) g o) ∧ FnM w' (some ⟨g, 0, none⟩) (r * r) (r * r) o ∧ (∀ i j, i < r → j < r → o (i * r + j) = o (j * r + i)) ∧ ∃ o2 : Nat → Nat, (∀ i j, i < r → j < c → canonOf (o2 (i * c + j)) = dotM (fun k => f (i * c + k)) (fun k => f2 (k * c + j)) c) ∧ ∀ i j, i < r → j ≤ i → canonOf (o (i * r + j)) = dotM (fun k => o2 (i * c + k)) (fun k => f (j * c + k)) c) ∧ Below w.heap.size w w' := by
  obtain ⟨t1, t2, t3, t4, t5⟩ := three_b w (MBox r c sa n ka) (MBox c c sb n2 kb) (MBox 0 0 none 0 0)
  have l1 := ha.1
  have l2 := ha.2.1
  have hm3 : r * r ≤ 144 := Nat.mul_le_mul l1 l1
  have HM3 := hid hm3
  have HPR := hid (fun W (hW : Below w.heap.size w W) => Square_any r c n n2 sa sb ka kb f f2 W (ha.below hW).2.2.2.1 (hb.below hW).2.2.2.1 l1 l2 ha.2.2.1 hb.2.2.1)
  obtain ⟨V, hV⟩ : ∃ V, Hid (((w.alloc (MBox r c sa n ka)).alloc (MBox c c sb n2 kb)).alloc (MBox 0 0 none 0 0) = V) := ⟨_, rfl⟩
  rw [hV.out] at t1 t2 t3 t4 t5
  have hV' := hV.out
  have HB := hid t4
  have HR := hid t3
  obtain ⟨x0, x1, x2⟩ := mcells_of t1
  obtain ⟨v0, v1, v2⟩ := mcells_of t2
  have hn1 : ((c : Int) != (c : Int)) = false := by simp
  unfold MBox at hV'
  unfold MV at HPR ⊢
  clear t1 t2 t3 t4 t5 ha hb l1 l2 hm3
  go_enter Try.func60, Try.ntmps60
  go_wp2_with fail
  refine (HPR.out _ HB.out).mono ?_
  rintro e w1 ⟨⟨g1, o1, rfl, hf1, hs1, hp1⟩, hb1⟩
  have HB1 := hid (HB.out.trans (hb1.mono HB.out.size))
  have HR1 := hid (blkM HR.out hb1)
  have HF1 := hid hf1
  have HS1 := hid hs1
  have HP1 := hid hp1
  clear hb1 hf1 hs1 hp1
  go_wp2_with fail
  refine (Over_any r r (r * r) _ (r * r) o1 w1 HF1.out (by have := HM3.out; omega)).mono ?_
  rintro e u3 ⟨rfl, hk3, hb3⟩
  have HB3 := hid (HB1.out.trans (hb3.mono HB1.out.size))
  have HF3 := hid (hk3 _ _ _ _ HF1.out)
  have HU3 := hid (blkM HR1.out hb3)
  obtain ⟨X0, X1, X2, X3, X4, hXX⟩ : ∃ a b s m k, Hid ((if finF (r * r) o1 = true then MV r r (some ⟨g1, 0, none⟩) (r * r) (r * r) else MV 0 0 none 0 0) = MV a b s m k) := by
    by_cases q : finF (r * r) o1 = true
    · exact ⟨r, r, _, _, _, by show _ = _; rw [if_pos q]⟩
    · exact ⟨0, 0, _, _, _, by show _ = _; rw [if_neg q]⟩
  obtain ⟨E, hE⟩ : ∃ E, Hid ((if finF (r * r) o1 = true then 0 else 5 : Int) = E) := ⟨_, rfl⟩
  rw [hXX.out, hE.out]
  obtain ⟨y0, y1, y2⟩ := mcells_of HU3.out
  have fz := frzM HU3.out
  unfold MV
  clear hk3 hb3
  go_wp2_with fail
  exact bodyPost_ret (v := AnsM r r (r * r) g1 o1) (by unfold AnsM; rw [hXX.out, hE.out]; simp [results, Try.results60, go_sem, y0, y1, y2, MV]) rfl ⟨⟨g1, o1, rfl, StoM.fn HF3.out HU3.out, HS1.out, HP1.out⟩, StoM.below HB3.out (by omega)⟩
end Go.Proofs.Ythnblidkbcficaa

namespace Go.Proofs.Ythnblidkbcficaa
open Go.RowKit Go.IntWalk

theorem first_two2 (a b : Int) : firstL [a, b] = first2 a b := by
  unfold first2
  by_cases h : a = 0
  · rw [if_pos h]
    show (if a = 0 then firstL [b] else a) = b
    rw [if_pos h]
    show (if b = 0 then firstL [] else b) = b
    by_cases hb : b = 0
    · rw [if_pos hb, hb]; rfl
    · rw [if_neg hb]
  · rw [if_neg h]
    show (if a = 0 then firstL [b] else a) = a
    rw [if_neg h]
theorem first2_zero {a b : Int} (h : first2 a b = 0) : a = 0 ∧ b = 0 := by
  unfold first2 at h
  by_cases c : a = 0
  · rw [if_pos c] at h; exact ⟨c, h⟩
  · rw [if_neg c] at h; exact absurd h c
/-- The numbers of a product. -/
def prdV (xs ys : List Nat) (c c2 : Nat) (i j : Nat) : Nat := dotM (fun k => xs.getD (i * c + k) 0) (fun k => ys.getD (k * c2 + j) 0) c
/-- What Mul tells of any two. -/
def mulT (rx cx : Int) (n : Nat) (xs : List Nat) (ry cy : Int) (m : Nat) (ys : List Nat) : Int := if first2 (chkM rx cx n xs) (chkM ry cy m ys) = 0 then mulE rx.toNat cx.toNat ry.toNat cy.toNat (prdV xs ys cx.toNat cy.toNat) else first2 (chkM rx cx n xs) (chkM ry cy m ys)
theorem Mul_tot (rx cx : Int) (sa : Option Addr) (n ka : Nat) (xs : List Nat) (ry cy : Int) (sb : Option Addr) (m kb : Nat) (ys : List Nat) (w : World) (ha : FlM w sa n ka xs) (hb : FlM w sb m kb ys) (hn : n ≤ 17592186043904) (hm : m ≤ 17592186043904) :
    Calls Try.prog 59 #[.agg #[.int .i64 rx, .int .i64 cx, .slice sa n ka], .agg #[.int .i64 ry, .int .i64 cy, .slice sb m kb]] w fun e w' => (∃ X0 X1 X2 X3 X4, e = .returned (.tuple #[.agg #[.int .i64 X0, .int .i64 X1, .slice X2 X3 X4], .int .i64 (mulT rx cx n xs ry cy m ys)]) ∧ ResM (mulT rx cx n xs ry cy m ys) rx.toNat cy.toNat (prdV xs ys cx.toNat cy.toNat) w' X0 X1 X2 X3 X4) ∧ Below w.heap.size w w' := by
  unfold mulT
  by_cases h : first2 (chkM rx cx n xs) (chkM ry cy m ys) = 0
  · rw [if_pos h]
    obtain ⟨h1, h2⟩ := first2_zero h
    obtain ⟨r, c, rfl, rfl, hga⟩ := gd_of ha h1
    obtain ⟨r2, c2, rfl, rfl, hgb⟩ := gd_of hb h2
    exact Mul_res r c r2 c2 n m sa sb ka kb _ _ (prdV xs ys c c2) w hga hgb (fun _ i j _ _ => rfl)
  · rw [if_neg h]
    refine (Mul_bad rx cx ry cy n m sa sb ka kb xs ys w ha hb hn hm h).mono ?_
    rintro e w' ⟨rfl, hbb⟩
    obtain ⟨X0, X1, X2, X3, X4, e1, e2⟩ := res_non rx.toNat cy.toNat (prdV xs ys cx.toNat cy.toNat) _ w' h
    exact ⟨⟨X0, X1, X2, X3, X4, by rw [e1], e2⟩, hbb⟩
theorem rMul_tot (rx cx : Int) (sa : Option Addr) (n ka : Nat) (xs : List Nat) (ry cy : Int) (sb : Option Addr) (m kb : Nat) (ys : List Nat) (w : World) (ha : FlM w sa n ka xs) (hb : FlM w sb m kb ys) (h : first2 (chkM rx cx n xs) (chkM ry cy m ys) = 0) :
    Calls Try.prog 58 #[.agg #[.int .i64 rx, .int .i64 cx, .slice sa n ka], .agg #[.int .i64 ry, .int .i64 cy, .slice sb m kb]] w fun e w' => (∃ X0 X1 X2 X3 X4, e = .returned (.tuple #[.agg #[.int .i64 X0, .int .i64 X1, .slice X2 X3 X4], .int .i64 (mulT rx cx n xs ry cy m ys)]) ∧ ResM (mulT rx cx n xs ry cy m ys) rx.toNat cy.toNat (prdV xs ys cx.toNat cy.toNat) w' X0 X1 X2 X3 X4) ∧ Below w.heap.size w w' := by
  unfold mulT
  rw [if_pos h]
  obtain ⟨h1, h2⟩ := first2_zero h
  obtain ⟨r, c, rfl, rfl, hga⟩ := gd_of ha h1
  obtain ⟨r2, c2, rfl, rfl, hgb⟩ := gd_of hb h2
  show Calls _ _ _ _ (fun e w' => (∃ X0 X1 X2 X3 X4, e = .returned (.tuple #[.agg #[.int .i64 X0, .int .i64 X1, .slice X2 X3 X4], .int .i64 (mulE r c r2 c2 (prdV xs ys c c2))]) ∧ ResM (mulE r c r2 c2 (prdV xs ys c c2)) r c2 (prdV xs ys c c2) w' X0 X1 X2 X3 X4) ∧ Below w.heap.size w w')
  by_cases hs : c = r2
  · subst hs
    refine (rMul_ok r c c2 n m sa sb ka kb _ _ w hga hgb).mono ?_
    rintro e w' ⟨⟨g, o, rfl, hf, hv2⟩, hbb⟩
    obtain ⟨X0, X1, X2, X3, X4, e1, e2⟩ := res_of r c2 g o (prdV xs ys c c2) (mulE r c c c2 (prdV xs ys c c2)) w' (by unfold mulE; rw [if_neg (fun h => h rfl)]) hf hv2
    exact ⟨⟨X0, X1, X2, X3, X4, by rw [e1], e2⟩, hbb⟩
  · refine (rMul_shape r c r2 c2 n m sa sb ka kb w (by omega)).mono ?_
    rintro e w' ⟨rfl, hbb⟩
    have e3 : mulE r c r2 c2 (prdV xs ys c c2) = 3 := by unfold mulE; rw [if_pos hs]
    obtain ⟨X0, X1, X2, X3, X4, e1, e2⟩ := res_non r c2 (prdV xs ys c c2) (mulE r c r2 c2 (prdV xs ys c c2)) w' (by rw [e3]; decide)
    exact ⟨⟨X0, X1, X2, X3, X4, by rw [← e1, e3], e2⟩, hbb⟩
/-- told of two that were handed back with the same error and numbers. -/
theorem told_res (E : Int) (r c : Nat) (v : Nat → Nat → Nat) (X0 X1 Y0 Y1 : Int) (X2 Y2 : Option Addr) (X3 X4 Y3 Y4 : Nat) (w : World) (h : ResM E r c v w X0 X1 X2 X3 X4) (h2 : E = 0 → ResM E r c v w Y0 Y1 Y2 Y3 Y4) :
    Calls Try.prog 16 #[.agg #[.int .i64 X0, .int .i64 X1, .slice X2 X3 X4], .int .i64 E, .agg #[.int .i64 Y0, .int .i64 Y1, .slice Y2 Y3 Y4], .int .i64 E] w fun e w' => e = .returned (.bool true) ∧ Below w.heap.size w w' := by
  rcases h with ⟨rfl, rfl, rfl, rfl, rfl, g, o, rfl, hf, hv, _⟩ | ⟨h0, rfl, rfl, rfl, rfl, rfl⟩
  · rcases h2 rfl with ⟨_, rfl, rfl, rfl, rfl, g', o', rfl, hf', hv', _⟩ | ⟨h0, _⟩
    · refine told_yes8 r c _ _ (r * c) _ _ o o' w hf hf' (fun k hk => ?_)
      obtain ⟨q1, q2, q3⟩ := split_k hk
      rw [← q3, hv _ _ q1 q2, hv' _ _ q1 q2]
    · exact absurd rfl h0
  · exact told_no E h0 _ _ _ _ _ w
end Go.Proofs.Ythnblidkbcficaa

namespace Go.Proofs.Ythnblidkbcficaa
open Go.RowKit Go.IntWalk

theorem dotM_canon {f f2 g : Nat → Nat} (n : Nat) (h : ∀ k, k < n → canonOf (f k) = canonOf (f2 k)) : dotM f g n = dotM f2 g n := by
  induction n with
  | zero => rfl
  | succ n ih => rw [dotM, dotM, ih (fun k hk => h k (by omega)), h n (by omega)]
/-- The numbers of f p f', from the diagonal down. -/
def sndL (xs ys : List Nat) (c : Nat) (i j : Nat) : Nat := dotM (fun k => prdV xs ys c c i k) (fun k => xs.getD (j * c + k) 0) c
def sndV (xs ys : List Nat) (c : Nat) (i j : Nat) : Nat := if j ≤ i then sndL xs ys c i j else sndL xs ys c j i
def sndE (r c r2 c2 : Nat) (v : Nat → Nat → Nat) : Int := if ¬ (r2 = c2 ∧ c = r2) then 3 else if finV r r v = true then 0 else 5
/-- What Sandwich tells of any two. -/
def sndT (rx cx : Int) (n : Nat) (xs : List Nat) (ry cy : Int) (m : Nat) (ys : List Nat) : Int := if first2 (chkM rx cx n xs) (chkM ry cy m ys) = 0 then sndE rx.toNat cx.toNat ry.toNat cy.toNat (sndV xs ys cx.toNat) else first2 (chkM rx cx n xs) (chkM ry cy m ys)
theorem snd_val {r c : Nat} {xs ys : List Nat} {o o2 : Nat → Nat} (hsym : ∀ i j, i < r → j < r → o (i * r + j) = o (j * r + i)) (h2 : ∀ i j, i < r → j < c → canonOf (o2 (i * c + j)) = dotM (fun k => xs.getD (i * c + k) 0) (fun k => ys.getD (k * c + j) 0) c) (h3 : ∀ i j, i < r → j ≤ i → canonOf (o (i * r + j)) = dotM (fun k => o2 (i * c + k)) (fun k => xs.getD (j * c + k) 0) c) (i j : Nat) (hi : i < r) (hj : j < r) : canonOf (o (i * r + j)) = sndV xs ys c i j := by
  have low : ∀ a b, a < r → b ≤ a → canonOf (o (a * r + b)) = sndL xs ys c a b := fun a b ha hb => by
    rw [h3 a b ha hb]
    unfold sndL
    refine dotM_canon c (fun k hk => ?_)
    unfold prdV
    rw [← h2 a k ha hk, canon_twice]
  unfold sndV
  by_cases h : j ≤ i
  · rw [if_pos h]; exact low i j hi h
  · rw [if_neg h, hsym i j hi hj]; exact low j i hj (by omega)
theorem snd_res (r c : Nat) (xs ys : List Nat) (g : Nat) (o o2 : Nat → Nat) (w' : World) (hf : FnM w' (some ⟨g, 0, none⟩) (r * r) (r * r) o) (hsym : ∀ i j, i < r → j < r → o (i * r + j) = o (j * r + i)) (h2 : ∀ i j, i < r → j < c → canonOf (o2 (i * c + j)) = dotM (fun k => xs.getD (i * c + k) 0) (fun k => ys.getD (k * c + j) 0) c) (h3 : ∀ i j, i < r → j ≤ i → canonOf (o (i * r + j)) = dotM (fun k => o2 (i * c + k)) (fun k => xs.getD (j * c + k) 0) c) :
    ∃ X0 X1 X2 X3 X4, AnsM r r (r * r) g o = .tuple #[.agg #[.int .i64 X0, .int .i64 X1, .slice X2 X3 X4], .int .i64 (sndE r c c c (sndV xs ys c))] ∧ ResM (sndE r c c c (sndV xs ys c)) r r (sndV xs ys c) w' X0 X1 X2 X3 X4 :=
  res_of r r g o (sndV xs ys c) (sndE r c c c (sndV xs ys c)) w' (by unfold sndE; rw [if_neg (fun h => h ⟨rfl, rfl⟩)]) hf (snd_val hsym h2 h3)
theorem Sand_tot (rx cx : Int) (sa : Option Addr) (n ka : Nat) (xs : List Nat) (ry cy : Int) (sb : Option Addr) (m kb : Nat) (ys : List Nat) (w : World) (ha : FlM w sa n ka xs) (hb : FlM w sb m kb ys) (hn : n ≤ 17592186043904) (hm : m ≤ 17592186043904) :
    Calls Try.prog 61 #[.agg #[.int .i64 rx, .int .i64 cx, .slice sa n ka], .agg #[.int .i64 ry, .int .i64 cy, .slice sb m kb]] w fun e w' => (∃ X0 X1 X2 X3 X4, e = .returned (.tuple #[.agg #[.int .i64 X0, .int .i64 X1, .slice X2 X3 X4], .int .i64 (sndT rx cx n xs ry cy m ys)]) ∧ ResM (sndT rx cx n xs ry cy m ys) rx.toNat rx.toNat (sndV xs ys cx.toNat) w' X0 X1 X2 X3 X4) ∧ Below w.heap.size w w' := by
  unfold sndT
  by_cases h : first2 (chkM rx cx n xs) (chkM ry cy m ys) = 0
  · rw [if_pos h]
    obtain ⟨h1, h2⟩ := first2_zero h
    obtain ⟨r, c, rfl, rfl, hga⟩ := gd_of ha h1
    obtain ⟨r2, c2, rfl, rfl, hgb⟩ := gd_of hb h2
    show Calls _ _ _ _ (fun e w' => (∃ X0 X1 X2 X3 X4, e = .returned (.tuple #[.agg #[.int .i64 X0, .int .i64 X1, .slice X2 X3 X4], .int .i64 (sndE r c r2 c2 (sndV xs ys c))]) ∧ ResM (sndE r c r2 c2 (sndV xs ys c)) r r (sndV xs ys c) w' X0 X1 X2 X3 X4) ∧ Below w.heap.size w w')
    by_cases hs : r2 = c2 ∧ c = r2
    · obtain ⟨rfl, rfl⟩ := hs
      refine (Sand_ok r c n m sa sb ka kb _ _ w hga hgb).mono ?_
      rintro e w' ⟨⟨g, o, rfl, hf, hsym, o2, q2, q3⟩, hbb⟩
      obtain ⟨X0, X1, X2, X3, X4, e1, e2⟩ := snd_res r c xs ys g o o2 w' hf hsym q2 q3
      exact ⟨⟨X0, X1, X2, X3, X4, by rw [e1], e2⟩, hbb⟩
    · refine (Sand_shape r c r2 c2 n m sa sb ka kb _ _ w hga hgb hs).mono ?_
      rintro e w' ⟨rfl, hbb⟩
      have e3 : sndE r c r2 c2 (sndV xs ys c) = 3 := by unfold sndE; rw [if_pos hs]
      obtain ⟨X0, X1, X2, X3, X4, e1, e2⟩ := res_non r r (sndV xs ys c) (sndE r c r2 c2 (sndV xs ys c)) w' (by rw [e3]; decide)
      exact ⟨⟨X0, X1, X2, X3, X4, by rw [← e1, e3], e2⟩, hbb⟩
  · rw [if_neg h]
    refine (Sand_bad rx cx ry cy n m sa sb ka kb xs ys w ha hb hn hm h).mono ?_
    rintro e w' ⟨rfl, hbb⟩
    obtain ⟨X0, X1, X2, X3, X4, e1, e2⟩ := res_non rx.toNat rx.toNat (sndV xs ys cx.toNat) _ w' h
    exact ⟨⟨X0, X1, X2, X3, X4, by rw [e1], e2⟩, hbb⟩
theorem rSand_tot (rx cx : Int) (sa : Option Addr) (n ka : Nat) (xs : List Nat) (ry cy : Int) (sb : Option Addr) (m kb : Nat) (ys : List Nat) (w : World) (ha : FlM w sa n ka xs) (hb : FlM w sb m kb ys) (h : first2 (chkM rx cx n xs) (chkM ry cy m ys) = 0) :
    Calls Try.prog 60 #[.agg #[.int .i64 rx, .int .i64 cx, .slice sa n ka], .agg #[.int .i64 ry, .int .i64 cy, .slice sb m kb]] w fun e w' => (∃ X0 X1 X2 X3 X4, e = .returned (.tuple #[.agg #[.int .i64 X0, .int .i64 X1, .slice X2 X3 X4], .int .i64 (sndT rx cx n xs ry cy m ys)]) ∧ ResM (sndT rx cx n xs ry cy m ys) rx.toNat rx.toNat (sndV xs ys cx.toNat) w' X0 X1 X2 X3 X4) ∧ Below w.heap.size w w' := by
  unfold sndT
  rw [if_pos h]
  obtain ⟨h1, h2⟩ := first2_zero h
  obtain ⟨r, c, rfl, rfl, hga⟩ := gd_of ha h1
  obtain ⟨r2, c2, rfl, rfl, hgb⟩ := gd_of hb h2
  show Calls _ _ _ _ (fun e w' => (∃ X0 X1 X2 X3 X4, e = .returned (.tuple #[.agg #[.int .i64 X0, .int .i64 X1, .slice X2 X3 X4], .int .i64 (sndE r c r2 c2 (sndV xs ys c))]) ∧ ResM (sndE r c r2 c2 (sndV xs ys c)) r r (sndV xs ys c) w' X0 X1 X2 X3 X4) ∧ Below w.heap.size w w')
  by_cases hs : r2 = c2 ∧ c = r2
  · obtain ⟨rfl, rfl⟩ := hs
    refine (rSand_ok r c n m sa sb ka kb _ _ w hga hgb).mono ?_
    rintro e w' ⟨⟨g, o, rfl, hf, hsym, o2, q2, q3⟩, hbb⟩
    obtain ⟨X0, X1, X2, X3, X4, e1, e2⟩ := snd_res r c xs ys g o o2 w' hf hsym q2 q3
    exact ⟨⟨X0, X1, X2, X3, X4, by rw [e1], e2⟩, hbb⟩
  · refine (rSand_shape r c r2 c2 n m sa sb ka kb w (by
      by_cases q : r2 = c2
      · exact Or.inr (fun hc => hs ⟨q, by omega⟩)
      · exact Or.inl (by omega))).mono ?_
    rintro e w' ⟨rfl, hbb⟩
    have e3 : sndE r c r2 c2 (sndV xs ys c) = 3 := by unfold sndE; rw [if_pos hs]
    obtain ⟨X0, X1, X2, X3, X4, e1, e2⟩ := res_non r r (sndV xs ys c) (sndE r c r2 c2 (sndV xs ys c)) w' (by rw [e3]; decide)
    exact ⟨⟨X0, X1, X2, X3, X4, by rw [← e1, e3], e2⟩, hbb⟩
end Go.Proofs.Ythnblidkbcficaa
