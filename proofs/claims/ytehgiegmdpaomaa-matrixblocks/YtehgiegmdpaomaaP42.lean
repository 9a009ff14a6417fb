
/- What MatrixPlaces wants besides: First of two, If, same; the errors told alike. -/
import Derived.Test.YtehgiegmdpaomaaP39
import Derived.Deep.Cut
import Derived.Test.YtehgiegmdpaomaaP37
namespace Go.Proofs.Ytehgiegmdpaomaa
open Go.RowKit Go.IntWalk

def I2 (a b : Int) : Obj := .cells #[.int .i64 a, .int .i64 b] 3
theorem finB_exp (x : Nat) (hx : x < 18446744073709551616) : (!(expOf x == 2047)) = finB x := by
  unfold finB
  by_cases h : x % 9223372036854775808 < 9218868437227405312
  · rw [decide_eq_true h]
    unfold expOf
    rw [canq_fin h, expq_fin h]
    rfl
  · rw [decide_eq_false h]
    cases hc : (expOf x == 2047) with
    | true => rfl
    | false => exact absurd (fin_exp hx hc) h
theorem f2 (a b : Int) : firstL [a, b] = if a = 0 then b else a := by
  unfold firstL
  by_cases h : a = 0
  · rw [if_pos h, if_pos h]
    unfold firstL
    by_cases h2 : b = 0
    · rw [if_pos h2]; exact h2.symm
    · rw [if_neg h2]
  · rw [if_neg h, if_neg h]
def outE (i r : Int) : Int := if i < 0 ∨ r ≤ i then 1 else 0
theorem row_span {r c i : Int} {n : Nat} {xs : List Nat} : spanE (chkM r c n xs) r c i 0 1 0 = firstL [chkM r c n xs, outE i r] := by
  rw [f2]
  unfold spanE outE
  by_cases hE : chkM r c n xs = 0
  · obtain ⟨R, C, rfl, rfl, h1, h2, _, _⟩ := chk_some hE
    rw [if_neg (fun h => h hE), if_pos hE]
    by_cases h : i < 0 ∨ (R : Int) ≤ i
    · rw [if_pos h, if_pos (by omega)]
    · rw [if_neg h, if_neg (by omega)]
  · rw [if_pos hE, if_neg hE]
theorem col_span {r c j : Int} {n : Nat} {xs : List Nat} : spanE (chkM r c n xs) r c 0 j 0 1 = firstL [chkM r c n xs, outE j c] := by
  rw [f2]
  unfold spanE outE
  by_cases hE : chkM r c n xs = 0
  · obtain ⟨R, C, rfl, rfl, h1, h2, _, _⟩ := chk_some hE
    rw [if_neg (fun h => h hE), if_pos hE]
    by_cases h : j < 0 ∨ (C : Int) ≤ j
    · rw [if_pos h, if_pos (by omega)]
    · rw [if_neg h, if_neg (by omega)]
  · rw [if_pos hE, if_neg hE]
theorem both_span {r c i j : Int} {n : Nat} {xs : List Nat} : spanE (chkM r c n xs) r c i j 1 1 = firstL [firstL [chkM r c n xs, outE i r], firstL [chkM r c n xs, outE j c]] := by
  rw [f2, f2, f2]
  unfold spanE outE
  by_cases hE : chkM r c n xs = 0
  · obtain ⟨R, C, rfl, rfl, h1, h2, _, _⟩ := chk_some hE
    rw [if_neg (fun h => h hE), if_pos hE, if_pos hE]
    by_cases h : i < 0 ∨ (R : Int) ≤ i
    · rw [if_pos h, if_pos (by omega), if_neg (by decide)]
    · rw [if_neg h, if_pos rfl]
      by_cases h3 : j < 0 ∨ (C : Int) ≤ j
      · rw [if_pos h3, if_pos (by omega)]
      · rw [if_neg h3, if_neg (by omega)]
  · rw [if_pos hE, if_neg hE, if_neg hE]
theorem with_first (F : Int) (x : Nat) : withE F x = firstL [F, if finB x = true then 0 else 4] := by
  rw [f2]
  unfold withE
  by_cases h : F = 0
  · rw [if_neg (fun hc => hc h), if_pos h]
  · rw [if_pos h, if_neg h]
theorem zero_both {E a b : Int} (h : firstL [firstL [E, a], firstL [E, b]] = 0) : firstL [E, a] = 0 ∧ firstL [E, b] = 0 := by
  rw [f2] at h
  by_cases h1 : firstL [E, a] = 0
  · rw [if_pos h1] at h; exact ⟨h1, h⟩
  · rw [if_neg h1] at h; exact absurd h h1
theorem with_zero {F : Int} {x : Nat} (h : withE F x = 0) : F = 0 ∧ finB x = true := by
  unfold withE at h
  by_cases hF : F = 0
  · rw [if_neg (fun hc => hc hF)] at h
    cases hc : finB x with
    | true => exact ⟨hF, rfl⟩
    | false => rw [hc, if_neg (by decide)] at h; cases h
  · rw [if_pos hF] at h; exact absurd h hF
end Go.Proofs.Ytehgiegmdpaomaa

namespace Go.Proofs.Ytehgiegmdpaomaa
open Go.RowKit Go.IntWalk

/-- The numbers of a multiple. -/
def sclV (xs : List Nat) (s c : Nat) (i j : Nat) : Nat := caf .mul (canonOf (xs.getD (i * c + j) 0)) (canonOf s)
def sclT (rx cx : Int) (n : Nat) (xs : List Nat) (s : Nat) : Int := if withE (chkM rx cx n xs) s = 0 then (if finV rx.toNat cx.toNat (sclV xs s cx.toNat) = true then 0 else 5) else withE (chkM rx cx n xs) s
theorem fin_of {s : Nat} (h : finB s = true) : s % 9223372036854775808 < 9218868437227405312 := by unfold finB at h; exact of_decide_eq_true h
end Go.Proofs.Ytehgiegmdpaomaa

namespace Go.Proofs.Ytehgiegmdpaomaa
open Go.RowKit Go.IntWalk

/-- A variable that holds a list. -/
def SBox (sa : Option Addr) (n ka : Nat) : Obj := .cells #[.slice sa n ka] 27
theorem scell_of {w : World} {b : Nat} {sa : Option Addr} {n ka : Nat} (h : w.heap[b]? = some (SBox sa n ka)) : w.cell? ⟨b, 0, none⟩ = some (.slice sa n ka) := by
  unfold SBox at h
  simp [World.cell?, h]
theorem lst_gd {w : World} {sa : Option Addr} {n ka : Nat} {xs : List Nat} (h : FlM w sa n ka xs) (he : lstE n xs = 0) : n ≤ 12 ∧ FnM w sa n ka (fun j => xs.getD j 0) ∧ ∀ k, k < n → xs.getD k 0 < 18446744073709551616 ∧ xs.getD k 0 % 9223372036854775808 < 9218868437227405312 := by
  obtain ⟨h1, h2⟩ := lst_zero he
  refine ⟨h1, h.fn, fun k hk => ?_⟩
  have hl := fn_lt h.fn k hk
  refine ⟨hl, fin_exp hl ?_⟩
  have := (finF_iff n (fun j => xs.getD j 0)).1 (fin_get h.1 h2) k hk
  exact this
/-- The numbers of an outer product. -/
def outV (xs ys : List Nat) (i j : Nat) : Nat := caf .mul (canonOf (xs.getD i 0)) (canonOf (ys.getD j 0))
def outT (n : Nat) (xs : List Nat) (m : Nat) (ys : List Nat) : Int := if first2 (lstE n xs) (lstE m ys) = 0 then (if finV n m (outV xs ys) = true then 0 else 5) else first2 (lstE n xs) (lstE m ys)
theorem finB_canon (x : Nat) : finB (canonOf x) = finB x := by
  unfold finB canonOf
  by_cases h : 9218868437227405312 < x % 9223372036854775808
  · rw [if_pos h, decide_eq_false (by decide), decide_eq_false (by omega)]
  · rw [if_neg h]
theorem canon_fin {x : Nat} (h : finB x = true) : canonOf x = x := by
  have := fin_of h
  unfold canonOf
  rw [if_neg (by omega)]
def eqE (n m : Nat) : Int := if n = m then 0 else 3
/-- What is wrong with two lists that are to be multiplied. -/
def dotE (n : Nat) (xs : List Nat) (m : Nat) (ys : List Nat) : Int := first2 (first2 (lstE n xs) (lstE m ys)) (eqE n m)
def dotW (xs ys : List Nat) (n : Nat) : Nat := dotM (fun k => xs.getD k 0) (fun k => ys.getD k 0) n
def dotT (n : Nat) (xs : List Nat) (m : Nat) (ys : List Nat) : Int := if dotE n xs m ys = 0 then (if finB (dotW xs ys n) = true then 0 else 5) else dotE n xs m ys
def dotD (n : Nat) (xs : List Nat) (m : Nat) (ys : List Nat) : Nat := if dotT n xs m ys = 0 then dotW xs ys n else 0
end Go.Proofs.Ytehgiegmdpaomaa

namespace Go.Proofs.Ytehgiegmdpaomaa
open Go.RowKit Go.IntWalk

end Go.Proofs.Ytehgiegmdpaomaa

namespace Go.Proofs.Ytehgiegmdpaomaa
open Go.RowKit Go.IntWalk

end Go.Proofs.Ytehgiegmdpaomaa

namespace Go.Proofs.Ytehgiegmdpaomaa
open Go.RowKit Go.IntWalk

/-- What is wrong with a block. -/
def blkE (E r c i j a b : Int) : Int := if E ≠ 0 then E else if 0 ≤ i ∧ 0 ≤ j ∧ 0 ≤ a ∧ 0 ≤ b ∧ i + a ≤ r ∧ j + b ≤ c then 0 else 1
set_option maxRecDepth 4000 in
set_option maxHeartbeats 2000000 in
theorem spanG_any (r c : Int) (sa : Option Addr) (n ka : Nat) (xs : List Nat) (i j a b : Int) (w : World) (h : FlM w sa n ka xs) (hn : n ≤ 17592186043904) (ha : a ≤ 9223372036854775807) (hb : b ≤ 9223372036854775807) :
    Calls Try.prog 22 #[.agg #[.int .i64 r, .int .i64 c, .slice sa n ka], .int .i64 i, .int .i64 j, .int .i64 a, .int .i64 b] w fun e w' => e = .returned (.int .i64 (blkE (chkM r c n xs) r c i j a b)) ∧ Below w.heap.size w w' := by
  have HB0 : Hid (Below w.heap.size w (w.alloc (MBox r c sa n ka))) := (Below.refl _ _).alloc (Nat.le_refl _) _
  have HA0 : Hid ((w.alloc (MBox r c sa n ka)).heap[w.heap.size]? = some (MBox r c sa n ka)) := nblkM _ _
  obtain ⟨V, hV⟩ : ∃ V, Hid (w.alloc (MBox r c sa n ka) = V) := ⟨_, rfl⟩
  rw [hV.out] at HB0 HA0
  have HF := hid (Check_any r c sa n ka xs V (h.below HB0.out) hn)
  have HSD : Hid (chkM r c n xs = 0 → 0 ≤ r ∧ r ≤ 12 ∧ 0 ≤ c ∧ c ≤ 12) := fun hz => by
    obtain ⟨p, q, rfl, rfl, h1, h2, _, _⟩ := chk_some hz
    omega
  have hV' := hV.out
  unfold MBox at hV'
  unfold MV at HF
  obtain ⟨x0, x1, x2⟩ := mcells_of HA0.out
  obtain ⟨E, hE⟩ : ∃ E, Hid (chkM r c n xs = E) := ⟨_, rfl⟩
  rw [hE.out] at HF HSD ⊢
  clear h hn
  by_cases hE0 : E = 0
  · subst hE0
    obtain ⟨s1, s2, s3, s4⟩ := HSD.out rfl
    have HFD : Hid (∀ q : Prop, (q ↔ (0 ≤ i ∧ 0 ≤ j ∧ 0 ≤ a ∧ 0 ≤ b ∧ i + a ≤ r ∧ j + b ≤ c)) → [Decidable q] → blkE 0 r c i j a b = if q then 0 else 1) := fun q hq _ => by
      unfold blkE
      rw [if_neg (by decide)]
      by_cases hp : 0 ≤ i ∧ 0 ≤ j ∧ 0 ≤ a ∧ 0 ≤ b ∧ i + a ≤ r ∧ j + b ≤ c
      · rw [if_pos hp, if_pos (hq.2 hp)]
      · rw [if_neg hp, if_neg (fun h => hp (hq.1 h))]
    have HF1 : Hid (¬ (0 ≤ i ∧ 0 ≤ j ∧ 0 ≤ a ∧ 0 ≤ b ∧ i + a ≤ r ∧ j + b ≤ c) → blkE 0 r c i j a b = 1) := fun hp => by unfold blkE; rw [if_neg (by decide), if_neg hp]
    have HF0 : Hid (0 ≤ i ∧ 0 ≤ j ∧ 0 ≤ a ∧ 0 ≤ b ∧ i + a ≤ r ∧ j + b ≤ c → blkE 0 r c i j a b = 0) := fun hp => by unfold blkE; rw [if_neg (by decide), if_pos hp]
    clear HFD
    by_cases d1 : i < 0
    · rw [HF1.out (by omega)]
      go_enter Try.func22, Try.ntmps22
      go_wp2_with fail
      refine HF.out.mono ?_
      rintro e w2 ⟨rfl, hb2⟩
      have HB2 := hid (HB0.out.trans (hb2.mono HB0.out.size))
      obtain ⟨y0, y1, y2⟩ := mcells_of (blkM HA0.out hb2)
      clear hb2
      go_wp2_with fail
      go_ret
      exact ⟨rfl, HB2.out⟩
    by_cases d2 : j < 0
    · rw [HF1.out (by omega)]
      go_enter Try.func22, Try.ntmps22
      go_wp2_with fail
      refine HF.out.mono ?_
      rintro e w2 ⟨rfl, hb2⟩
      have HB2 := hid (HB0.out.trans (hb2.mono HB0.out.size))
      obtain ⟨y0, y1, y2⟩ := mcells_of (blkM HA0.out hb2)
      clear hb2
      go_wp2_with fail
      go_ret
      exact ⟨rfl, HB2.out⟩
    by_cases d3 : a < 0
    · rw [HF1.out (by omega)]
      go_enter Try.func22, Try.ntmps22
      go_wp2_with fail
      refine HF.out.mono ?_
      rintro e w2 ⟨rfl, hb2⟩
      have HB2 := hid (HB0.out.trans (hb2.mono HB0.out.size))
      obtain ⟨y0, y1, y2⟩ := mcells_of (blkM HA0.out hb2)
      clear hb2
      go_wp2_with fail
      go_ret
      exact ⟨rfl, HB2.out⟩
    by_cases d4 : b < 0
    · rw [HF1.out (by omega)]
      go_enter Try.func22, Try.ntmps22
      go_wp2_with fail
      refine HF.out.mono ?_
      rintro e w2 ⟨rfl, hb2⟩
      have HB2 := hid (HB0.out.trans (hb2.mono HB0.out.size))
      obtain ⟨y0, y1, y2⟩ := mcells_of (blkM HA0.out hb2)
      clear hb2
      go_wp2_with fail
      go_ret
      exact ⟨rfl, HB2.out⟩
    obtain ⟨ra, hra⟩ : ∃ t, Hid (r - a = t) := ⟨_, rfl⟩
    obtain ⟨cb, hcb⟩ : ∃ t, Hid (c - b = t) := ⟨_, rfl⟩
    have ra' := hra.out
    have cb' := hcb.out
    have m1 : -9223372036854775808 ≤ ra := by omega
    have m2 : ra ≤ 9223372036854775807 := by omega
    have m3 : -9223372036854775808 ≤ cb := by omega
    have m4 : cb ≤ 9223372036854775807 := by omega
    by_cases d5 : ra < i
    · rw [HF1.out (by omega)]
      clear s1 s2 s3 s4 ha hb
      go_enter Try.func22, Try.ntmps22
      go_wp2_with fail
      refine HF.out.mono ?_
      rintro e w2 ⟨rfl, hb2⟩
      have HB2 := hid (HB0.out.trans (hb2.mono HB0.out.size))
      obtain ⟨y0, y1, y2⟩ := mcells_of (blkM HA0.out hb2)
      clear hb2
      go_wp2_with fail
      go_ret
      exact ⟨rfl, HB2.out⟩
    by_cases d6 : cb < j
    · rw [HF1.out (by omega)]
      clear s1 s2 s3 s4 ha hb
      go_enter Try.func22, Try.ntmps22
      go_wp2_with fail
      refine HF.out.mono ?_
      rintro e w2 ⟨rfl, hb2⟩
      have HB2 := hid (HB0.out.trans (hb2.mono HB0.out.size))
      obtain ⟨y0, y1, y2⟩ := mcells_of (blkM HA0.out hb2)
      clear hb2
      go_wp2_with fail
      go_ret
      exact ⟨rfl, HB2.out⟩
    rw [HF0.out (by omega)]
    clear s1 s2 s3 s4 ha hb
    go_enter Try.func22, Try.ntmps22
    go_wp2_with fail
    refine HF.out.mono ?_
    rintro e w2 ⟨rfl, hb2⟩
    have HB2 := hid (HB0.out.trans (hb2.mono HB0.out.size))
    obtain ⟨y0, y1, y2⟩ := mcells_of (blkM HA0.out hb2)
    clear hb2
    go_wp2_with fail
    go_ret
    exact ⟨rfl, HB2.out⟩
  · have hne : (E != 0) = true := by simpa using hE0
    rw [show blkE E r c i j a b = E from by unfold blkE; rw [if_pos hE0]]
    clear hE0 ha hb
    go_enter Try.func22, Try.ntmps22
    go_wp2_with fail
    refine HF.out.mono ?_
    rintro e w2 ⟨rfl, hb2⟩
    have HB2 := hid (HB0.out.trans (hb2.mono HB0.out.size))
    obtain ⟨y0, y1, y2⟩ := mcells_of (blkM HA0.out hb2)
    clear hb2
    go_wp2_with fail
    go_ret
    exact ⟨rfl, HB2.out⟩
set_option maxRecDepth 4000 in
set_option maxHeartbeats 1000000 in
theorem Block_non (r c : Int) (sa : Option Addr) (n ka : Nat) (xs : List Nat) (i j a b : Int) (w : World) (h : FlM w sa n ka xs) (hn : n ≤ 17592186043904) (ha : a ≤ 9223372036854775807) (hb : b ≤ 9223372036854775807) (hE : blkE (chkM r c n xs) r c i j a b ≠ 0) :
    Calls Try.prog 8 #[.agg #[.int .i64 r, .int .i64 c, .slice sa n ka], .int .i64 i, .int .i64 j, .int .i64 a, .int .i64 b] w fun e w' => e = .returned (NonM (blkE (chkM r c n xs) r c i j a b)) ∧ Below w.heap.size w w' := by
  obtain ⟨t1, t2, t3, t4⟩ := two_b w (MBox r c sa n ka) (MBox 0 0 none 0 0)
  have HCB := hid (fun W (hW : Below w.heap.size w W) => spanG_any r c sa n ka xs i j a b W (h.below hW) hn ha hb)
  obtain ⟨E, hEE⟩ : ∃ E, Hid (blkE (chkM r c n xs) r c i j a b = E) := ⟨_, rfl⟩
  rw [hEE.out] at HCB hE
  rw [hEE.out]
  have hne : (E != 0) = true := by simpa using hE
  obtain ⟨V, hV⟩ : ∃ V, Hid ((w.alloc (MBox r c sa n ka)).alloc (MBox 0 0 none 0 0) = V) := ⟨_, rfl⟩
  rw [hV.out] at t1 t2 t3 t4
  have hV' := hV.out
  have HB := hid t3
  have HR := hid t2
  obtain ⟨x0, x1, x2⟩ := mcells_of t1
  unfold MBox at hV'
  unfold NonM
  unfold MV
  clear t1 t2 t3 t4 h hn ha hb hE
  go_enter Try.func8, Try.ntmps8
  go_wp2_with fail
  refine (HCB.out _ HB.out).mono ?_
  rintro e w1 ⟨rfl, hb1⟩
  have HB1 := hid (HB.out.trans (hb1.mono HB.out.size))
  have HR1 := hid (blkM HR.out hb1)
  clear hb1
  go_wp2_with fail
  refine (refused_any E _).mono ?_
  rintro e w2 ⟨rfl, hb2⟩
  have HB2 := hid (HB1.out.trans (hb2.mono HB1.out.size))
  have HR2 := hid (blkM HR1.out hb2)
  obtain ⟨r0, r1, r2⟩ := mcells_of HR2.out
  have fz := frzM HR2.out
  unfold MV
  clear hb2
  go_wp2_with fail
  exact bodyPost_ret (v := .tuple #[MV 0 0 none 0 0, .int .i64 E]) (by simp [results, Try.results8, go_sem, r0, r1, r2, MV]) rfl ⟨rfl, StoM.below HB2.out (by omega)⟩
set_option maxRecDepth 4000 in
set_option maxHeartbeats 1000000 in
theorem Block_ok (r c n i j a b : Nat) (sa : Option Addr) (ka : Nat) (xs : List Nat) (w : World) (h : FlM w sa n ka xs) (hz : chkM r c n xs = 0) (hr : i + a ≤ r) (hc : j + b ≤ c) :
    Calls Try.prog 8 #[.agg #[.int .i64 r, .int .i64 c, .slice sa n ka], .int .i64 i, .int .i64 j, .int .i64 a, .int .i64 b] w fun e w' => (∃ (g : Nat) (o : Nat → Nat), e = .returned (.tuple #[.agg #[.int .i64 a, .int .i64 b, .slice (some ⟨g, 0, none⟩) (a * b) (a * b)], .int .i64 0]) ∧ FnM w' (some ⟨g, 0, none⟩) (a * b) (a * b) o ∧ ∀ p q, p < a → q < b → o (p * b + q) = xs.getD ((i + p) * c + (j + q)) 0) ∧ Below w.heap.size w w' := by
  obtain ⟨t1, t2, t3, t4⟩ := two_b w (MBox r c sa n ka) (MBox 0 0 none 0 0)
  obtain ⟨R, C, eR, eC, hga⟩ := gd_of h hz
  obtain rfl : r = R := by omega
  obtain rfl : c = C := by omega
  have l1 := hga.1
  have l2 := hga.2.1
  have hmax : a * b ≤ 144 := Nat.mul_le_mul (show a ≤ 12 by omega) (show b ≤ 12 by omega)
  have HMX := hid hmax
  have HCB := hid (fun W (hW : Below w.heap.size w W) => spanG_any r c sa n ka xs i j a b W (h.below hW) (by have := hga.le; omega) (by omega) (by omega))
  rw [show blkE (chkM r c n xs) r c i j a b = 0 from by unfold blkE; rw [if_neg (fun q => q hz), if_pos (by omega)]] at HCB
  have HPT := hid (fun W (hW : Below w.heap.size w W) => part_any r c n i j a b sa ka _ W (h.below hW).fn hga.2.2.1 l1 l2 hr hc)
  obtain ⟨V, hV⟩ : ∃ V, Hid ((w.alloc (MBox r c sa n ka)).alloc (MBox 0 0 none 0 0) = V) := ⟨_, rfl⟩
  rw [hV.out] at t1 t2 t3 t4
  have hV' := hV.out
  have HB := hid t3
  have HR := hid t2
  have HA0 := hid t1
  obtain ⟨x0, x1, x2⟩ := mcells_of t1
  unfold MBox at hV'
  clear t1 t2 t3 t4 h hz hr hc hga l1 l2 hmax eR eC
  go_enter Try.func8, Try.ntmps8
  go_wp2_with fail
  refine (HCB.out _ HB.out).mono ?_
  rintro e w1 ⟨rfl, hb1⟩
  have HB1 := hid (HB.out.trans (hb1.mono HB.out.size))
  have HR1 := hid (blkM HR.out hb1)
  obtain ⟨x0, x1, x2⟩ := mcells_of (blkM HA0.out hb1)
  clear hb1
  go_wp2_with fail
  refine (HPT.out _ HB1.out).mono ?_
  rintro e w2 ⟨⟨g, o, rfl, hg, hrow, hv⟩, hb2⟩
  have HB2 := hid (HB1.out.trans (hb2.mono HB1.out.size))
  have HR2 := hid (blkM HR1.out hb2)
  have HFN : Hid (FnM w2 (some ⟨g, 0, none⟩) (a * b) (a * b) o) := rowF hrow (fun k hk => by
    obtain ⟨q1, q2, q3⟩ := split_k hk
    have := (hv _ _ q1 q2).2
    rw [q3] at this
    exact this) HMX.out
  have HV := hid (fun p q hp hq => (hv p q hp hq).1)
  obtain ⟨r0, r1, r2⟩ := mcells_of HR2.out
  have fz := frzM HR2.out
  clear hb2 hg hrow hv
  go_wp2_with fail
  exact bodyPost_ret (v := .tuple #[.agg #[.int .i64 a, .int .i64 b, .slice (some ⟨g, 0, none⟩) (a * b) (a * b)], .int .i64 0]) (by simp [results, Try.results8, go_sem, r0, r1, r2]) rfl ⟨⟨g, o, rfl, StoM.fn HFN.out HR2.out, HV.out⟩, StoM.below HB2.out (by omega)⟩
end Go.Proofs.Ytehgiegmdpaomaa

namespace Go.Proofs.Ytehgiegmdpaomaa
open Go.RowKit Go.IntWalk

end Go.Proofs.Ytehgiegmdpaomaa
