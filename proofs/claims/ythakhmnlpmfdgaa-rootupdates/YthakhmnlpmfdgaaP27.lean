
/- The document's AllFinite, Check, First, If, List of matrices and lists; the law's told and list. -/
import Derived.Test.YthakhmnlpmfdgaaP24
import Derived.Test.YthakhmnlpmfdgaaP18
import Derived.Test.YthakhmnlpmfdgaaP22
import Derived.Test.YthakhmnlpmfdgaaP25
namespace Go.Proofs.Ythakhmnlpmfdgaa
open Go.RowKit Go.IntWalk

set_option maxHeartbeats 1000000 in
theorem rall_some (zs : List Nat) (b off cap : Nat) (w : World) (hcell : ∀ i, i < zs.length → w.cell? ⟨b, off + i, none⟩ = some (.float .f64 (zs.getD i 0))) (hz : ∀ i, i < zs.length → zs.getD i 0 < 18446744073709551616) (hn : zs.length ≤ 140737488355328) :
    Calls Try.prog 56 #[.slice (some ⟨b, off, none⟩) zs.length cap] w fun r w' => r = .returned (.bool (finM zs)) ∧ w' = w := by
  have HC := hid hcell
  have HZ := hid hz
  obtain ⟨n, hnl⟩ : ∃ n, Hid (zs.length = n) := ⟨_, rfl⟩
  rw [hnl.out] at hn ⊢
  clear hcell hz
  go_enter Try.func56, Try.ntmps56
  go_wp2
  go_loopw [7] (fun i wr => ∃ k : Nat, k ≤ n ∧ i = .int .i64 k ∧ Hid (finM (zs.take k) = true) ∧ wr = w) (fun i _ => n - (intOf i).toNat)
  case atStart => exact ⟨0, Nat.zero_le _, rfl, rfl, rfl⟩
  case round =>
    obtain ⟨k, hkn, rfl, HA, rfl⟩ := hrel
    by_cases hlt : k < n
    · have hck := HC.out k (by rw [hnl.out]; exact hlt)
      have HF := hid (fun W => rfinite_any (zs.getD k 0) W (HZ.out k (by rw [hnl.out]; exact hlt)))
      have HTK : Hid (finM (zs.take (k + 1)) = (finM (zs.take k) && !(expOf (zs.getD k 0) == 2047))) := finM_take zs k (by rw [hnl.out]; exact hlt)
      obtain ⟨z, hzz⟩ : ∃ z, Hid (zs.getD k 0 = z) := ⟨_, rfl⟩
      rw [hzz.out] at hck HF HTK
      cases he : (expOf z == 2047) with
      | true =>
        rw [he] at HF HTK
        go_wp2_with fail
        refine (HF.out _).mono ?_
        rintro e w1 ⟨rfl, rfl⟩
        go_wp2_with fail
        go_ret
        exact ⟨ret_bool (finM_false zs (k + 1) (by rw [HTK.out]; simp)).symm, rfl⟩
      | false =>
        rw [he] at HF HTK
        go_wp2_with fail
        refine (HF.out _).mono ?_
        rintro e w1 ⟨rfl, rfl⟩
        go_wp2_with fail
        refine ⟨⟨k + 1, by omega, by go_num, by show finM _ = true; rw [HTK.out, HA.out]; rfl, trivial⟩, ?_⟩
        simp [intOf]; omega
    · go_wp2
      go_ret
      exact ⟨ret_bool (finM_all zs k (by rw [hnl.out]; omega) HA.out).symm, rfl⟩
set_option maxHeartbeats 1000000 in
theorem rall_nil (w : World) : Calls Try.prog 56 #[.slice none 0 0] w fun r w' => r = .returned (.bool true) ∧ w' = w := by
  go_enter Try.func56, Try.ntmps56
  go_wp2
  go_loopw [7] (fun i wr => i = .int .i64 0 ∧ wr = w) (fun _ _ => 0)
  case atStart => exact ⟨rfl, rfl⟩
  case round =>
    obtain ⟨rfl, rfl⟩ := hrel
    go_wp2
    go_ret
    exact ⟨rfl, rfl⟩
/-- The document's AllFinite of any list. -/
theorem rall_any (sa : Option Addr) (n cap : Nat) (xs : List Nat) (w : World) (h : FlM w sa n cap xs) (hn : n ≤ 17592186043904) :
    Calls Try.prog 56 #[.slice sa n cap] w fun r w' => r = .returned (.bool (finM xs)) ∧ w' = w := by
  obtain ⟨rfl, h2, ⟨rfl, h3, rfl⟩ | ⟨b, off, rfl, h4, _, _, h7⟩⟩ := h
  · have hx : xs = [] := List.length_eq_zero_iff.1 h3
    subst hx
    exact rall_nil w
  · exact rall_some xs b off cap w h7 (fun i hi => h2 _ (mem_getM xs i hi)) (by omega)
set_option maxHeartbeats 1000000 in
theorem rCheck_any (r c : Int) (sa : Option Addr) (n cap : Nat) (xs : List Nat) (w : World) (h : FlM w sa n cap xs) (hn : n ≤ 17592186043904) : Calls Try.prog 55 #[.agg #[.int .i64 r, .int .i64 c, .slice sa n cap]] w fun e w' => e = .returned (.int .i64 (chkM r c n xs)) ∧ Below w.heap.size w w' := by
  have HB0 : Hid (Below w.heap.size w (w.alloc (MBox r c sa n cap))) := (Below.refl _ _).alloc (Nat.le_refl _) _
  obtain ⟨z0, z1, z2⟩ := mcells_of (w := w.alloc (MBox r c sa n cap)) (b := w.heap.size) (nblkM _ _)
  obtain ⟨W0, hW0⟩ : ∃ V, Hid (w.alloc (MBox r c sa n cap) = V) := ⟨_, rfl⟩
  rw [hW0.out] at HB0 z0 z1 z2
  have HF := hid (rall_any sa n cap xs W0 (h.below HB0.out) hn)
  have hW := hW0.out
  unfold MBox at hW
  obtain ⟨E, hE⟩ : ∃ E, Hid (chkM r c n xs = E) := ⟨_, rfl⟩
  rw [hE.out]
  clear h
  by_cases h1 : r < 0
  · obtain rfl : E = 1 := by rw [← hE.out]; unfold chkM; rw [if_pos (Or.inl (by unfold sideB; simp; omega))]
    go_enter Try.func55, Try.ntmps55
    go_wp2_with fail
    go_ret
    exact ⟨rfl, HB0.out⟩
  by_cases h2 : 12 < r
  · obtain rfl : E = 1 := by rw [← hE.out]; unfold chkM; rw [if_pos (Or.inl (by unfold sideB; simp; omega))]
    go_enter Try.func55, Try.ntmps55
    go_wp2_with fail
    go_ret
    exact ⟨rfl, HB0.out⟩
  by_cases h3 : c < 0
  · obtain rfl : E = 1 := by rw [← hE.out]; unfold chkM; rw [if_pos (Or.inr (by unfold sideB; simp; omega))]
    go_enter Try.func55, Try.ntmps55
    go_wp2_with fail
    go_ret
    exact ⟨rfl, HB0.out⟩
  by_cases h4 : 12 < c
  · obtain rfl : E = 1 := by rw [← hE.out]; unfold chkM; rw [if_pos (Or.inr (by unfold sideB; simp; omega))]
    go_enter Try.func55, Try.ntmps55
    go_wp2_with fail
    go_ret
    exact ⟨rfl, HB0.out⟩
  have hE2 : E = if (n : Int) ≠ r * c then 3 else if finM xs = false then 4 else 0 := by
    rw [← hE.out]
    unfold chkM
    rw [if_neg (by unfold sideB; simp; omega)]
  obtain ⟨a, rfl⟩ := Int.eq_ofNat_of_zero_le (show 0 ≤ r by omega)
  obtain ⟨b, rfl⟩ := Int.eq_ofNat_of_zero_le (show 0 ≤ c by omega)
  have hp : a * b ≤ 12 * 12 := Nat.mul_le_mul (by omega) (by omega)
  have e1 : (a : Int) * (b : Int) = ((a * b : Nat) : Int) := by simp
  obtain ⟨N, hN⟩ : ∃ p, Hid (a * b = p) := ⟨_, rfl⟩
  rw [hN.out] at e1 hp
  rw [e1] at hE2
  have e3 := wrapM N (by omega)
  by_cases h5 : (n : Int) = (N : Int)
  · have hne : ((n : Int) != (N : Int)) = false := by simp [h5]
    rw [if_neg (by simpa using h5)] at hE2
    have HE2 := hid hE2
    clear hp hE2 h5
    cases h6 : finM xs with
    | false =>
      obtain rfl : E = 4 := by rw [HE2.out, if_pos h6]
      rw [h6] at HF
      go_enter Try.func55, Try.ntmps55
      go_wp2_with fail
      refine HF.out.mono ?_
      rintro e w2 ⟨rfl, rfl⟩
      go_wp2_with fail
      go_ret
      exact ⟨rfl, HB0.out⟩
    | true =>
      obtain rfl : E = 0 := by rw [HE2.out, if_neg (by simp [h6])]
      rw [h6] at HF
      go_enter Try.func55, Try.ntmps55
      go_wp2_with fail
      refine HF.out.mono ?_
      rintro e w2 ⟨rfl, rfl⟩
      go_wp2_with fail
      go_ret
      exact ⟨rfl, HB0.out⟩
  · have hne : ((n : Int) != (N : Int)) = true := by simpa using h5
    obtain rfl : E = 3 := by rw [hE2, if_pos h5]
    clear hp hE2 h5
    go_enter Try.func55, Try.ntmps55
    go_wp2_with fail
    go_ret
    exact ⟨rfl, HB0.out⟩
/-- The first error of a list. -/
def firstL : List Int → Int
  | [] => 0
  | x :: xs => if x = 0 then firstL xs else x
theorem If_any (v : Bool) (E : Int) (w : World) : Calls Try.prog 33 #[.bool v, .int .i64 E] w fun e w' => e = .returned (.int .i64 (if v = true then E else 0)) ∧ w' = w := by
  cases v
  · go_enter Try.func33, Try.ntmps33
    go_wp2_with fail
    go_ret
    exact ⟨rfl, rfl⟩
  · go_enter Try.func33, Try.ntmps33
    go_wp2_with fail
    go_ret
    exact ⟨rfl, rfl⟩
theorem firstL_take (xs : List Int) (k : Nat) (h : ∀ j, j < k → xs.getD j 0 = 0) : firstL xs = firstL (xs.drop k) := by
  induction k generalizing xs with
  | zero => rfl
  | succ k ih =>
    cases xs with
    | nil => rfl
    | cons x xs =>
      have h0 := h 0 (by omega)
      simp at h0
      rw [List.drop_succ_cons, firstL, if_pos h0]
      exact ih xs (fun j hj => by have := h (j + 1) (by omega); simpa using this)
set_option maxHeartbeats 1000000 in
/-- First of so many ints. -/
theorem First_any (b n : Nat) (xs : List Int) (hl : xs.length = n) (hn : n ≤ 100) (w : World) (hc : ∀ j, j < n → w.cell? ⟨b, j, none⟩ = some (.int .i64 (xs.getD j 0))) : Calls Try.prog 24 #[.slice (some ⟨b, 0, none⟩) n n] w fun e w' => e = .returned (.int .i64 (firstL xs)) ∧ w' = w := by
  have HC := hid hc
  have HL := hid hl
  clear hc hl
  go_enter Try.func24, Try.ntmps24
  go_wp2_with fail
  go_loopw [3] (fun i wr => ∃ k : Nat, k ≤ n ∧ i = .int .i64 k ∧ Hid (∀ j, j < k → xs.getD j 0 = 0) ∧ wr = w) (fun i _ => n - (intOf i).toNat)
  case atStart => exact ⟨0, Nat.zero_le _, rfl, fun j hj => absurd hj (Nat.not_lt_zero j), rfl⟩
  case round =>
    obtain ⟨k, hkn, rfl, HA, rfl⟩ := hrel
    by_cases hlt : k < n
    · have hck := HC.out k hlt
      have HD : Hid (firstL xs = if xs.getD k 0 = 0 then firstL (xs.drop (k + 1)) else xs.getD k 0) := by
        show _ = _
        rw [firstL_take xs k HA.out, List.drop_eq_getElem_cons (by rw [HL.out]; exact hlt), firstL, List.getD_eq_getElem?_getD, List.getElem?_eq_getElem (by rw [HL.out]; exact hlt)]
        rfl
      have HS : Hid (xs.getD k 0 = 0 → ∀ j, j < k + 1 → xs.getD j 0 = 0) := fun h j hj => by
        by_cases hjk : j = k
        · rw [hjk]; exact h
        · exact HA.out j (by omega)
      obtain ⟨z, hz⟩ : ∃ z, Hid (xs.getD k 0 = z) := ⟨_, rfl⟩
      rw [hz.out] at hck HD HS
      have hkI : (k : Int) < (n : Int) := by omega
      have hk0 : (0 : Int) ≤ (k : Int) := by omega
      by_cases h0 : z = 0
      · subst h0
        have HS2 := hid (HS.out rfl)
        go_wp2_with fail
        refine ⟨⟨k + 1, by omega, by go_num, HS2.out, trivial⟩, ?_⟩
        simp [intOf]; omega
      · have hne : (z != 0) = true := by simpa using h0
        have HR : Hid (firstL xs = z) := by show _ = _; rw [HD.out, if_neg h0]
        clear h0
        go_wp2_with fail
        go_ret
        exact ⟨ret_int HR.out.symm, rfl⟩
    · obtain rfl : k = n := by omega
      have HR : Hid (firstL xs = 0) := by
        show _ = _
        rw [firstL_take xs k HA.out, List.drop_eq_nil_of_le (by rw [HL.out]; exact Nat.le_refl _)]
        rfl
      go_wp2_with fail
      go_ret
      exact ⟨ret_int HR.out.symm, rfl⟩
end Go.Proofs.Ythakhmnlpmfdgaa

namespace Go.Proofs.Ythakhmnlpmfdgaa
open Go.RowKit Go.IntWalk

/-- What is wrong with a list. -/
def lstE (n : Nat) (xs : List Nat) : Int := if 12 < n then 1 else if finM xs = false then 4 else 0
set_option maxHeartbeats 1000000 in
theorem chkL_any (sa : Option Addr) (n cap : Nat) (xs : List Nat) (w : World) (h : FlM w sa n cap xs) (hn : n ≤ 17592186043904) :
    Calls Try.prog 75 #[.slice sa n cap] w fun e w' => e = .returned (.int .i64 (lstE n xs)) ∧ Below w.heap.size w w' := by
  have HF := hid (FinM_any sa n cap xs w h hn)
  obtain ⟨E, hE⟩ : ∃ E, Hid (lstE n xs = E) := ⟨_, rfl⟩
  rw [hE.out]
  clear h
  go_enter Try.func75, Try.ntmps75
  go_wp2_with fail
  refine (isSide_any n _).mono ?_
  rintro e w1 ⟨rfl, rfl⟩
  cases h1 : sideB n with
  | false =>
    obtain rfl : E = 1 := by
      rw [← hE.out]; unfold lstE
      rw [if_pos (by unfold sideB at h1; simp at h1; omega)]
    go_wp2_with fail
    go_ret
    exact ⟨rfl, Below.refl _ _⟩
  | true =>
    have HE2 : Hid (E = if finM xs = false then 4 else 0) := by
      show _ = _; rw [← hE.out]; unfold lstE
      rw [if_neg (by unfold sideB at h1; simp at h1; omega)]
    go_wp2_with fail
    refine HF.out.mono ?_
    rintro e w2 ⟨rfl, hb2⟩
    have HB2 := hid hb2
    clear hb2
    cases h4 : finM xs with
    | false =>
      obtain rfl : E = 4 := by rw [HE2.out, if_pos h4]
      go_wp2_with fail
      go_ret
      exact ⟨rfl, HB2.out⟩
    | true =>
      obtain rfl : E = 0 := by rw [HE2.out, if_neg (by simp [h4])]
      go_wp2_with fail
      go_ret
      exact ⟨rfl, HB2.out⟩
set_option maxHeartbeats 400000 in
theorem rRaw_any (r c : Nat) (hr : r ≤ 100) (hc : c ≤ 100) (w : World) : Calls Try.prog 36 #[.int .i64 r, .int .i64 c] w fun e w' => e = .returned (MV r c (some ⟨w.heap.size + 1, 0, none⟩) (r * c) (r * c)) ∧ w'.rowIs (w.heap.size + 1) 28 (r * c) (fun _ => .float .f64 0) ∧ Below w.heap.size w w' := by
  have hp : r * c ≤ 10000 := Nat.mul_le_mul hr hc
  have e1 : (r : Int) * (c : Int) = ((r * c : Nat) : Int) := by simp
  obtain ⟨N, hN⟩ : ∃ p, Hid (r * c = p) := ⟨_, rfl⟩
  rw [hN.out] at e1 hp ⊢
  have hmk := run_make_row' (P := Try.prog) 32 28 (.float .f64 0) 8 Try.underlying32 info_fM rfl .i64 .i64 N (by omega) (by omega)
  have e3 := wrapM N (by omega)
  unfold MV
  clear hr hc
  go_enter Try.func36, Try.ntmps36
  go_wp2_with fail
  refine bodyPost_ret (v := .agg #[.int .i64 r, .int .i64 c, .slice (some ⟨w.heap.size + 1, 0, none⟩) N N]) (by simp [results, Try.results36, go_sem]) rfl ⟨rfl, ?_, ((Below.refl _ _).alloc (Nat.le_refl _) _).alloc (by simp) _⟩
  have := World.rowIs_made (w.alloc (MBox r c (some ⟨w.heap.size + 1, 0, none⟩) N N)) (.float .f64 0) N 28
  rw [World.size_alloc] at this
  exact this
end Go.Proofs.Ythakhmnlpmfdgaa

namespace Go.Proofs.Ythakhmnlpmfdgaa
open Go.RowKit Go.IntWalk

/-- A variable that holds an int. -/
def IBox (i : Int) : Obj := .cells #[.int .i64 i] 3
theorem icell_of {w : World} {b : Nat} {i : Int} (h : w.heap[b]? = some (IBox i)) : w.cell? ⟨b, 0, none⟩ = some (.int .i64 i) := by
  unfold IBox at h
  simp [World.cell?, h]
theorem four_b (w : World) (A B C R : Obj) : ((((w.alloc A).alloc B).alloc C).alloc R).heap[w.heap.size]? = some A ∧ ((((w.alloc A).alloc B).alloc C).alloc R).heap[w.heap.size + 1]? = some B ∧ ((((w.alloc A).alloc B).alloc C).alloc R).heap[w.heap.size + 1 + 1]? = some C ∧ ((((w.alloc A).alloc B).alloc C).alloc R).heap[w.heap.size + 1 + 1 + 1]? = some R ∧ Below w.heap.size w ((((w.alloc A).alloc B).alloc C).alloc R) := by
  obtain ⟨h1, h2, h3, h4, h5⟩ := three_b w A B C
  have hb : Below (((w.alloc A).alloc B).alloc C).heap.size (((w.alloc A).alloc B).alloc C) ((((w.alloc A).alloc B).alloc C).alloc R) := (Below.refl _ _).alloc (Nat.le_refl _) R
  refine ⟨blkM h1 hb, blkM h2 hb, blkM h3 hb, ?_, h4.trans (hb.mono h4.size)⟩
  have := nblkM (((w.alloc A).alloc B).alloc C) R
  rw [h5] at this
  exact this
/-- What checkSpan tells. -/
def spanE (E r c i j a b : Int) : Int := if E ≠ 0 then E else if i < 0 ∨ j < 0 ∨ r - a < i ∨ c - b < j then 1 else 0
end Go.Proofs.Ythakhmnlpmfdgaa

namespace Go.Proofs.Ythakhmnlpmfdgaa
open Go.RowKit Go.IntWalk

theorem field2_run (a b c : Value) (w : World) : (Instr.field 34 (.agg #[a, b, c]) 2).run Try.prog w = .ok c w := by
  unfold Instr.field
  simp [go_sem]
  rfl
theorem span_zero {r c i j a b : Int} {n : Nat} {xs : List Nat} (h : spanE (chkM r c n xs) r c i j a b = 0) : chkM r c n xs = 0 ∧ ∃ R C p q : Nat, r = R ∧ c = C ∧ i = p ∧ j = q ∧ (p : Int) + a ≤ R ∧ (q : Int) + b ≤ C ∧ R ≤ 12 ∧ C ≤ 12 ∧ n = R * C ∧ finM xs = true := by
  unfold spanE at h
  by_cases hE : chkM r c n xs = 0
  · rw [if_neg (fun hc => hc hE)] at h
    by_cases hd : i < 0 ∨ j < 0 ∨ r - a < i ∨ c - b < j
    · rw [if_pos hd] at h; cases h
    · obtain ⟨R, C, rfl, rfl, h1, h2, h3, h4⟩ := chk_some hE
      obtain ⟨p, rfl⟩ := Int.eq_ofNat_of_zero_le (show 0 ≤ i by omega)
      obtain ⟨q, rfl⟩ := Int.eq_ofNat_of_zero_le (show 0 ≤ j by omega)
      exact ⟨hE, R, C, p, q, rfl, rfl, rfl, rfl, by omega, by omega, h1, h2, h3, h4⟩
  · rw [if_pos hE] at h
    exact absurd h hE
/-- A list handed back: numbers told by a function, or nothing. -/
def LstR (E : Int) (m : Nat) (g : Nat → Nat) (W : World) (s : Option Addr) (k cap : Nat) : Prop := (E = 0 ∧ k = m ∧ FnM W s k cap g) ∨ (E ≠ 0 ∧ s = none ∧ k = 0 ∧ cap = 0)
theorem LstR.below {E : Int} {m : Nat} {g : Nat → Nat} {W W' : World} {s : Option Addr} {k cap : Nat} (h : LstR E m g W s k cap) (hb : Below W.heap.size W W') : LstR E m g W' s k cap := by
  rcases h with ⟨h0, h1, h2⟩ | h
  · exact Or.inl ⟨h0, h1, h2.below hb⟩
  · exact Or.inr h
end Go.Proofs.Ythakhmnlpmfdgaa

namespace Go.Proofs.Ythakhmnlpmfdgaa
open Go.RowKit Go.IntWalk

/-- What With tells. -/
def withE (F : Int) (x : Nat) : Int := if F ≠ 0 then F else if finB x = true then 0 else 4
/-- What With hands back. -/
def WthR (G : Int) (r c : Int) (n p x : Nat) (f : Nat → Nat) (W : World) (X0 X1 : Int) (X2 : Option Addr) (X3 X4 : Nat) : Prop :=
  (G = 0 ∧ X0 = r ∧ X1 = c ∧ X3 = n ∧ ∃ o : Nat → Nat, FnM W X2 X3 X4 o ∧ ∀ k, k < n → o k = if k = p then x else f k) ∨ (G ≠ 0 ∧ X0 = 0 ∧ X1 = 0 ∧ X2 = none ∧ X3 = 0 ∧ X4 = 0)
theorem WthR.below {G r c : Int} {n p x : Nat} {f : Nat → Nat} {W W' : World} {X0 X1 : Int} {X2 : Option Addr} {X3 X4 : Nat} (h : WthR G r c n p x f W X0 X1 X2 X3 X4) (hb : Below W.heap.size W W') : WthR G r c n p x f W' X0 X1 X2 X3 X4 := by
  rcases h with ⟨h0, h1, h2, h3, o, h4, h5⟩ | h
  · exact Or.inl ⟨h0, h1, h2, h3, o, h4.below hb, h5⟩
  · exact Or.inr h
end Go.Proofs.Ythakhmnlpmfdgaa

namespace Go.Proofs.Ythakhmnlpmfdgaa
open Go.RowKit Go.IntWalk

/-- Numbers in memory of one's own. -/
def OwM (W : World) (B : Nat) (ta : Option Addr) (n cap : Nat) (xs : List Nat) : Prop := FlM W ta n cap xs ∧ (n = 0 ∨ ∃ g, ta = some ⟨g, 0, none⟩ ∧ B ≤ g ∧ ∀ k, W.frozen? ⟨g, k, none⟩ = false)
theorem OwM.mono {W : World} {B B' : Nat} {ta : Option Addr} {n cap : Nat} {xs : List Nat} (h : OwM W B ta n cap xs) (hb : B' ≤ B) : OwM W B' ta n cap xs := by
  rcases h.2 with h2 | ⟨g, h1, h2, h3⟩
  · exact ⟨h.1, Or.inl h2⟩
  · exact ⟨h.1, Or.inr ⟨g, h1, Nat.le_trans hb h2, h3⟩⟩
theorem fl_lt {W : World} {g n cap : Nat} {xs : List Nat} (h : FlM W (some ⟨g, 0, none⟩) n cap xs) : g < W.heap.size := by
  rcases h.2.2 with ⟨h1, _⟩ | ⟨b, off, h1, h2, _⟩
  · cases h1
  · simp only [Option.some.injEq, Addr.mk.injEq] at h1
    rw [h1.1]; exact h2
theorem OwM.below {W W' : World} {B : Nat} {ta : Option Addr} {n cap : Nat} {xs : List Nat} (h : OwM W B ta n cap xs) (hb : Below W.heap.size W W') : OwM W' B ta n cap xs := by
  refine ⟨h.1.below hb, ?_⟩
  rcases h.2 with h2 | ⟨g, h1, h2, h3⟩
  · exact Or.inl h2
  · subst h1
    exact Or.inr ⟨g, rfl, h2, fun k => (World.frozen?_of_block (hb.block g (fl_lt h.1))).trans (h3 k)⟩
theorem fl_cell {W : World} {g n cap : Nat} {xs : List Nat} (h : FlM W (some ⟨g, 0, none⟩) n cap xs) (hn : n ≠ 0) : ∃ x, W.cell? ⟨g, 0, none⟩ = some (.float .f64 x) := by
  rcases h.2.2 with ⟨h1, _⟩ | ⟨b, off, h1, _, _, _, h2⟩
  · cases h1
  · simp only [Option.some.injEq, Addr.mk.injEq, and_true] at h1
    obtain ⟨rfl, rfl⟩ := h1
    exact ⟨_, h2 0 (by omega)⟩
theorem fl_ne {W : World} {g n cap b : Nat} {xs : List Nat} {r0 c0 : Int} {s0 : Option Addr} {n0 k0 : Nat} (h : FlM W (some ⟨g, 0, none⟩) n cap xs) (hn : n ≠ 0) (hb : W.heap[b]? = some (MBox r0 c0 s0 n0 k0)) : g ≠ b := fun hc => by
  subst hc
  obtain ⟨x, hx⟩ := fl_cell h hn
  rw [(mcells_of hb).1] at hx
  cases hx
theorem OwM.sto {W : World} {B : Nat} {ta : Option Addr} {n cap : Nat} {xs : List Nat} (h : OwM W B ta n cap xs) {b : Nat} {r c r0 c0 : Int} {s s0 : Option Addr} {m k n0 k0 : Nat} (hb : W.heap[b]? = some (MBox r0 c0 s0 n0 k0)) : OwM (StoM W b r c s m k) B ta n cap xs := by
  refine ⟨sto_fl h.1 hb, ?_⟩
  by_cases hn : n = 0
  · exact Or.inl hn
  rcases h.2 with h2 | ⟨g, h1, h2, h3⟩
  · exact absurd h2 hn
  · subst h1
    exact Or.inr ⟨g, rfl, h2, fun k => (World.frozen?_of_block (StoM.keep (fl_ne h.1 hn hb))).trans (h3 k)⟩
theorem l_own (sa : Option Addr) (sn sc : Nat) (xs : List Nat) (w : World) (hu : U64At w sa sn xs) (hn : sn ≤ 17592186043904) :
    Calls Try.prog 22 #[.slice sa sn sc] w fun r w' => ∃ ta cap, r = .returned (.slice ta sn cap) ∧ OwM w' w.heap.size ta sn cap xs ∧ Below w.heap.size w w' := by
  refine (Of64_any sa sn sc xs w hu hn).mono ?_
  rintro r w' ⟨v, rfl, h1, h2, h3⟩
  by_cases c : xs = []
  · obtain rfl := h2 c
    subst c
    have h0 : sn = 0 := hu.1.symm
    subst h0
    exact ⟨none, 0, rfl, ⟨⟨rfl, fun x hx => (by cases hx), Or.inl ⟨rfl, rfl, rfl⟩⟩, Or.inl rfl⟩, h3⟩
  · rcases h1.2 with ⟨_, e⟩ | ⟨g, cap, cur, rfl, k1, k2, k3, k4, k5, k6⟩
    · exact absurd (List.length_eq_zero_iff.1 e) c
    · rw [hu.1] at k3 ⊢
      refine ⟨_, cap, rfl, ⟨⟨hu.1, hu.2.1, Or.inr ⟨g, 0, rfl, (Array.getElem?_eq_some_iff.1 k2).1, k3, k4, fun j hj => ?_⟩⟩, Or.inr ⟨g, rfl, k1, fun j => frozen_of_row w' g j cur _ k2⟩⟩, h3⟩
      have e1 : (cur.toList.take (xs.length * 1))[j]? = (xs.map (Value.float .f64))[j]? := by rw [k6]
      have hj2 : j < xs.length := by rw [hu.1]; exact hj
      rw [List.getElem?_take, if_pos (by omega), List.getElem?_map, List.getElem?_eq_getElem hj2] at e1
      have e2 : cur[j]? = some (.float .f64 (xs.getD j 0)) := by
        rw [← Array.getElem?_toList, e1, List.getD_eq_getElem?_getD, List.getElem?_eq_getElem hj2]
        rfl
      rw [Nat.zero_add]
      simp [World.cell?, k2, e2]
set_option maxHeartbeats 400000 in
theorem rAt_any (r : Int) (sa : Option Addr) (c n cap i j : Nat) (xs : List Nat) (w : World) (h : FlM w sa n cap xs) (hi : i ≤ 100) (hc : c ≤ 100) (hj : j ≤ 100) (hk : i * c + j < n) : Calls Try.prog 38 #[MV r c sa n cap, .int .i64 i, .int .i64 j] w fun r w' => r = .returned (.float .f64 (xs.getD (i * c + j) 0)) ∧ Below w.heap.size w w' := by
  obtain ⟨b, off, rfl, h1, h2, _⟩ := h.at (by omega)
  have hp : i * c ≤ 10000 := Nat.mul_le_mul hi hc
  have hc0 := h2 _ hk
  have e1 : (i : Int) * (c : Int) = ((i * c : Nat) : Int) := by simp
  obtain ⟨p, hp'⟩ : ∃ p, Hid (i * c = p) := ⟨_, rfl⟩
  rw [hp'.out] at e1 hp hk hc0 ⊢
  have e2 : (p : Int) + (j : Int) = ((p + j : Nat) : Int) := by simp
  obtain ⟨k, hk'⟩ : ∃ k, Hid (p + j = k) := ⟨_, rfl⟩
  have e3 := wrapM p (by omega)
  have e4 := wrapM k (by rw [← hk'.out]; omega)
  rw [hk'.out] at e2 hk hc0 ⊢
  have k0 : (0 : Int) ≤ (k : Int) := by omega
  have k1 : (k : Int) < (n : Int) := by omega
  have hcell : (w.alloc (MBox r c (some ⟨b, off, none⟩) n cap)).cell? ⟨b, off + k, none⟩ = some (.float .f64 (xs.getD k 0)) := by
    rw [((Below.refl w.heap.size w).alloc (Nat.le_refl _) _).cell (p := ⟨b, off + k, none⟩) h1]
    exact hc0
  have HB : Hid (Below w.heap.size w (w.alloc (MBox r c (some ⟨b, off, none⟩) n cap))) := (Below.refl _ _).alloc (Nat.le_refl _) _
  obtain ⟨x, hx⟩ : ∃ x, Hid (xs.getD k 0 = x) := ⟨_, rfl⟩
  rw [hx.out] at hcell ⊢
  unfold MBox at HB hcell
  unfold MV
  clear h h1 h2 hc0 hi hc hj hp
  go_enter Try.func38, Try.ntmps38
  go_wp2_with fail
  go_ret
  exact ⟨rfl, HB.out⟩
theorem rAt_fn (r : Int) (sa : Option Addr) (c n cap i j : Nat) (f : Nat → Nat) (w : World) (h : FnM w sa n cap f) (hi : i ≤ 100) (hc : c ≤ 100) (hj : j ≤ 100) (hk : i * c + j < n) : Calls Try.prog 38 #[.agg #[.int .i64 r, .int .i64 c, .slice sa n cap], .int .i64 i, .int .i64 j] w fun r w' => r = .returned (.float .f64 (f (i * c + j))) ∧ Below w.heap.size w w' := by
  have := rAt_any r sa c n cap i j _ w h.fl hi hc hj hk
  rw [getD_map n f _ hk] at this
  exact this
set_option maxRecDepth 4000 in
set_option maxHeartbeats 1000000 in
/-- Put: the number's cell is written, nothing else. -/
theorem Put_any (r : Int) (g c n cap i j x y : Nat) (w : World) (hcell : w.cell? ⟨g, i * c + j, none⟩ = some (.float .f64 y)) (hfz : w.frozen? ⟨g, i * c + j, none⟩ = false) (hg : g < w.heap.size) (hi : i ≤ 100) (hc : c ≤ 100) (hj : j ≤ 100) (hk : i * c + j < n) : Calls Try.prog 39 #[.agg #[.int .i64 r, .int .i64 c, .slice (some ⟨g, 0, none⟩) n cap], .int .i64 i, .int .i64 j, .float .f64 x] w fun e w' => e = .returned (.tuple #[]) ∧ w' = (w.alloc (MBox r c (some ⟨g, 0, none⟩) n cap)).setCell ⟨g, i * c + j, none⟩ (.float .f64 x) := by
  have hst := fstoreM
  have hal : Below w.heap.size w (w.alloc (MBox r c (some ⟨g, 0, none⟩) n cap)) := (Below.refl _ _).alloc (Nat.le_refl _) _
  have hp : i * c ≤ 10000 := Nat.mul_le_mul hi hc
  have e1 : (i : Int) * (c : Int) = ((i * c : Nat) : Int) := by simp
  have hc2 : (w.alloc (MBox r c (some ⟨g, 0, none⟩) n cap)).cell? ⟨g, i * c + j, none⟩ = some (.float .f64 y) := (World.cell?_of_block (hal.block _ hg)).trans hcell
  have hf2 : (w.alloc (MBox r c (some ⟨g, 0, none⟩) n cap)).frozen? ⟨g, i * c + j, none⟩ = false := (World.frozen?_of_block (hal.block _ hg)).trans hfz
  obtain ⟨x0, x1, x2⟩ := mcells_of (w := w.alloc (MBox r c (some ⟨g, 0, none⟩) n cap)) (b := w.heap.size) (nblkM _ _)
  obtain ⟨V, hV⟩ : ∃ V, Hid (w.alloc (MBox r c (some ⟨g, 0, none⟩) n cap) = V) := ⟨_, rfl⟩
  rw [hV.out] at hc2 hf2 x0 x1 x2 ⊢
  have hV' := hV.out
  unfold MBox at hV'
  obtain ⟨P, hP⟩ : ∃ t, Hid (i * c = t) := ⟨_, rfl⟩
  rw [hP.out] at e1 hp hk hc2 hf2 ⊢
  have e2 : (P : Int) + (j : Int) = ((P + j : Nat) : Int) := by simp
  obtain ⟨k, hk'⟩ : ∃ t, Hid (P + j = t) := ⟨_, rfl⟩
  have e3 := wrapM P (by omega)
  have e4 := wrapM k (by rw [← hk'.out]; omega)
  rw [hk'.out] at e2 hk hc2 hf2 ⊢
  have k0 : (0 : Int) ≤ (k : Int) := by omega
  have k1 : (k : Int) < (n : Int) := by omega
  clear hcell hfz hg hi hc hj hp hal
  go_enter Try.func39, Try.ntmps39
  go_wp2_with fail
  exact bodyPost_end (v := .tuple #[]) (by simp [results, Try.results39, go_sem]) rfl ⟨rfl, rfl⟩
end Go.Proofs.Ythakhmnlpmfdgaa
