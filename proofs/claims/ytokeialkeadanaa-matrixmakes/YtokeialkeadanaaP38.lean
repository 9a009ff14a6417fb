
/- The document's AllFinite, Check, First, If, List of matrices and lists; the law's told and list. -/
import Derived.Test.YtokeialkeadanaaP37
import Derived.Test.YtokeialkeadanaaP20
namespace Go.Proofs.Ytokeialkeadanaa
open Go.RowKit Go.IntWalk

set_option maxHeartbeats 1000000 in
theorem rall_some (zs : List Nat) (b off cap : Nat) (w : World) (hcell : ∀ i, i < zs.length → w.cell? ⟨b, off + i, none⟩ = some (.float .f64 (zs.getD i 0))) (hz : ∀ i, i < zs.length → zs.getD i 0 < 18446744073709551616) (hn : zs.length ≤ 140737488355328) :
    Calls Try.prog 29 #[.slice (some ⟨b, off, none⟩) zs.length cap] w fun r w' => r = .returned (.bool (finM zs)) ∧ w' = w := by
  have HC := hid hcell
  have HZ := hid hz
  obtain ⟨n, hnl⟩ : ∃ n, Hid (zs.length = n) := ⟨_, rfl⟩
  rw [hnl.out] at hn ⊢
  clear hcell hz
  go_enter Try.func29, Try.ntmps29
  go_wp2
  go_loopw [7] (fun i wr => ∃ k : Nat, k ≤ n ∧ i = .int .i64 k ∧ Hid (finM (zs.take k) = true) ∧ wr = w) (fun i _ => n - (intOf i).toNat)
  case atStart => exact ⟨0, Nat.zero_le _, rfl, rfl, rfl⟩
  case round =>
    obtain ⟨k, hkn, rfl, HA, rfl⟩ := hrel
    by_cases hlt : k < n
    · have hck := HC.out k (by rw [hnl.out]; exact hlt)
      have HF := hid (fun W => rfinite_any (zs.getD k 0) W (HZ.out k (by rw [hnl.out]; exact hlt)))
      have HTK : Hid (finM (zs.take (k + 1)) = (finM (zs.take k) && !(expOf (zs.getD k 0) == 2047))) := finM_take zs k (by rw [hnl.out]; exact hlt)
      obtain ⟨z, hzz⟩ : ∃ z, Hid (zs.getD k 0 = z) := ⟨_, rfl⟩
      rw [hzz.out] at hck HF HTK
      cases he : (expOf z == 2047) with
      | true =>
        rw [he] at HF HTK
        go_wp2_with fail
        refine (HF.out _).mono ?_
        rintro e w1 ⟨rfl, rfl⟩
        go_wp2_with fail
        go_ret
        exact ⟨ret_bool (finM_false zs (k + 1) (by rw [HTK.out]; simp)).symm, rfl⟩
      | false =>
        rw [he] at HF HTK
        go_wp2_with fail
        refine (HF.out _).mono ?_
        rintro e w1 ⟨rfl, rfl⟩
        go_wp2_with fail
        refine ⟨⟨k + 1, by omega, by go_num, by show finM _ = true; rw [HTK.out, HA.out]; rfl, trivial⟩, ?_⟩
        simp [intOf]; omega
    · go_wp2
      go_ret
      exact ⟨ret_bool (finM_all zs k (by rw [hnl.out]; omega) HA.out).symm, rfl⟩
set_option maxHeartbeats 1000000 in
theorem rall_nil (w : World) : Calls Try.prog 29 #[.slice none 0 0] w fun r w' => r = .returned (.bool true) ∧ w' = w := by
  go_enter Try.func29, Try.ntmps29
  go_wp2
  go_loopw [7] (fun i wr => i = .int .i64 0 ∧ wr = w) (fun _ _ => 0)
  case atStart => exact ⟨rfl, rfl⟩
  case round =>
    obtain ⟨rfl, rfl⟩ := hrel
    go_wp2
    go_ret
    exact ⟨rfl, rfl⟩
/-- The document's AllFinite of any list. -/
theorem rall_any (sa : Option Addr) (n cap : Nat) (xs : List Nat) (w : World) (h : FlM w sa n cap xs) (hn : n ≤ 17592186043904) :
    Calls Try.prog 29 #[.slice sa n cap] w fun r w' => r = .returned (.bool (finM xs)) ∧ w' = w := by
  obtain ⟨rfl, h2, ⟨rfl, h3, rfl⟩ | ⟨b, off, rfl, h4, _, _, h7⟩⟩ := h
  · have hx : xs = [] := List.length_eq_zero_iff.1 h3
    subst hx
    exact rall_nil w
  · exact rall_some xs b off cap w h7 (fun i hi => h2 _ (mem_getM xs i hi)) (by omega)
set_option maxHeartbeats 1000000 in
theorem rCheck_any (r c : Int) (sa : Option Addr) (n cap : Nat) (xs : List Nat) (w : World) (h : FlM w sa n cap xs) (hn : n ≤ 17592186043904) : Calls Try.prog 8 #[.agg #[.int .i64 r, .int .i64 c, .slice sa n cap]] w fun e w' => e = .returned (.int .i64 (chkM r c n xs)) ∧ Below w.heap.size w w' := by
  have HB0 : Hid (Below w.heap.size w (w.alloc (MBox r c sa n cap))) := (Below.refl _ _).alloc (Nat.le_refl _) _
  obtain ⟨z0, z1, z2⟩ := mcells_of (w := w.alloc (MBox r c sa n cap)) (b := w.heap.size) (nblkM _ _)
  obtain ⟨W0, hW0⟩ : ∃ V, Hid (w.alloc (MBox r c sa n cap) = V) := ⟨_, rfl⟩
  rw [hW0.out] at HB0 z0 z1 z2
  have HF := hid (rall_any sa n cap xs W0 (h.below HB0.out) hn)
  have hW := hW0.out
  unfold MBox at hW
  obtain ⟨E, hE⟩ : ∃ E, Hid (chkM r c n xs = E) := ⟨_, rfl⟩
  rw [hE.out]
  clear h
  by_cases h1 : r < 0
  · obtain rfl : E = 1 := by rw [← hE.out]; unfold chkM; rw [if_pos (Or.inl (by unfold sideB; simp; omega))]
    go_enter Try.func8, Try.ntmps8
    go_wp2_with fail
    go_ret
    exact ⟨rfl, HB0.out⟩
  by_cases h2 : 12 < r
  · obtain rfl : E = 1 := by rw [← hE.out]; unfold chkM; rw [if_pos (Or.inl (by unfold sideB; simp; omega))]
    go_enter Try.func8, Try.ntmps8
    go_wp2_with fail
    go_ret
    exact ⟨rfl, HB0.out⟩
  by_cases h3 : c < 0
  · obtain rfl : E = 1 := by rw [← hE.out]; unfold chkM; rw [if_pos (Or.inr (by unfold sideB; simp; omega))]
    go_enter Try.func8, Try.ntmps8
    go_wp2_with fail
    go_ret
    exact ⟨rfl, HB0.out⟩
  by_cases h4 : 12 < c
  · obtain rfl : E = 1 := by rw [← hE.out]; unfold chkM; rw [if_pos (Or.inr (by unfold sideB; simp; omega))]
    go_enter Try.func8, Try.ntmps8
    go_wp2_with fail
    go_ret
    exact ⟨rfl, HB0.out⟩
  have hE2 : E = if (n : Int) ≠ r * c then 3 else if finM xs = false then 4 else 0 := by
    rw [← hE.out]
    unfold chkM
    rw [if_neg (by unfold sideB; simp; omega)]
  obtain ⟨a, rfl⟩ := Int.eq_ofNat_of_zero_le (show 0 ≤ r by omega)
  obtain ⟨b, rfl⟩ := Int.eq_ofNat_of_zero_le (show 0 ≤ c by omega)
  have hp : a * b ≤ 12 * 12 := Nat.mul_le_mul (by omega) (by omega)
  have e1 : (a : Int) * (b : Int) = ((a * b : Nat) : Int) := by simp
  obtain ⟨N, hN⟩ : ∃ p, Hid (a * b = p) := ⟨_, rfl⟩
  rw [hN.out] at e1 hp
  rw [e1] at hE2
  have e3 := wrapM N (by omega)
  by_cases h5 : (n : Int) = (N : Int)
  · have hne : ((n : Int) != (N : Int)) = false := by simp [h5]
    rw [if_neg (by simpa using h5)] at hE2
    have HE2 := hid hE2
    clear hp hE2 h5
    cases h6 : finM xs with
    | false =>
      obtain rfl : E = 4 := by rw [HE2.out, if_pos h6]
      rw [h6] at HF
      go_enter Try.func8, Try.ntmps8
      go_wp2_with fail
      refine HF.out.mono ?_
      rintro e w2 ⟨rfl, rfl⟩
      go_wp2_with fail
      go_ret
      exact ⟨rfl, HB0.out⟩
    | true =>
      obtain rfl : E = 0 := by rw [HE2.out, if_neg (by simp [h6])]
      rw [h6] at HF
      go_enter Try.func8, Try.ntmps8
      go_wp2_with fail
      refine HF.out.mono ?_
      rintro e w2 ⟨rfl, rfl⟩
      go_wp2_with fail
      go_ret
      exact ⟨rfl, HB0.out⟩
  · have hne : ((n : Int) != (N : Int)) = true := by simpa using h5
    obtain rfl : E = 3 := by rw [hE2, if_pos h5]
    clear hp hE2 h5
    go_enter Try.func8, Try.ntmps8
    go_wp2_with fail
    go_ret
    exact ⟨rfl, HB0.out⟩
/-- The first error of a list. -/
def firstL : List Int → Int
  | [] => 0
  | x :: xs => if x = 0 then firstL xs else x
theorem If_any (v : Bool) (E : Int) (w : World) : Calls Try.prog 65 #[.bool v, .int .i64 E] w fun e w' => e = .returned (.int .i64 (if v = true then E else 0)) ∧ w' = w := by
  cases v
  · go_enter Try.func65, Try.ntmps65
    go_wp2_with fail
    go_ret
    exact ⟨rfl, rfl⟩
  · go_enter Try.func65, Try.ntmps65
    go_wp2_with fail
    go_ret
    exact ⟨rfl, rfl⟩
theorem firstL_take (xs : List Int) (k : Nat) (h : ∀ j, j < k → xs.getD j 0 = 0) : firstL xs = firstL (xs.drop k) := by
  induction k generalizing xs with
  | zero => rfl
  | succ k ih =>
    cases xs with
    | nil => rfl
    | cons x xs =>
      have h0 := h 0 (by omega)
      simp at h0
      rw [List.drop_succ_cons, firstL, if_pos h0]
      exact ih xs (fun j hj => by have := h (j + 1) (by omega); simpa using this)
end Go.Proofs.Ytokeialkeadanaa

namespace Go.Proofs.Ytokeialkeadanaa
open Go.RowKit Go.IntWalk

/-- What is wrong with a list. -/
def lstE (n : Nat) (xs : List Nat) : Int := if 12 < n then 1 else if finM xs = false then 4 else 0
set_option maxHeartbeats 1000000 in
theorem rList_any (sa : Option Addr) (n cap : Nat) (xs : List Nat) (w : World) (h : FlM w sa n cap xs) (hn : n ≤ 17592186043904) :
    Calls Try.prog 39 #[.slice sa n cap] w fun e w' => e = .returned (.int .i64 (lstE n xs)) ∧ w' = w := by
  have HF := hid (rall_any sa n cap xs w h hn)
  obtain ⟨E, hE⟩ : ∃ E, Hid (lstE n xs = E) := ⟨_, rfl⟩
  rw [hE.out]
  by_cases h1 : 12 < n
  · obtain rfl : E = 1 := by rw [← hE.out]; unfold lstE; rw [if_pos h1]
    clear h
    go_enter Try.func39, Try.ntmps39
    go_wp2_with fail
    go_ret
    exact ⟨rfl, rfl⟩
  · have HE2 : Hid (E = if finM xs = false then 4 else 0) := by show _ = _; rw [← hE.out]; unfold lstE; rw [if_neg h1]
    clear h
    cases h6 : finM xs with
    | false =>
      obtain rfl : E = 4 := by rw [HE2.out, if_pos h6]
      rw [h6] at HF
      go_enter Try.func39, Try.ntmps39
      go_wp2_with fail
      refine HF.out.mono ?_
      rintro e w2 ⟨rfl, rfl⟩
      go_wp2_with fail
      go_ret
      exact ⟨rfl, rfl⟩
    | true =>
      obtain rfl : E = 0 := by rw [HE2.out, if_neg (by simp [h6])]
      rw [h6] at HF
      go_enter Try.func39, Try.ntmps39
      go_wp2_with fail
      refine HF.out.mono ?_
      rintro e w2 ⟨rfl, rfl⟩
      go_wp2_with fail
      go_ret
      exact ⟨rfl, rfl⟩
set_option maxHeartbeats 1000000 in
theorem chkL_any (sa : Option Addr) (n cap : Nat) (xs : List Nat) (w : World) (h : FlM w sa n cap xs) (hn : n ≤ 17592186043904) :
    Calls Try.prog 38 #[.slice sa n cap] w fun e w' => e = .returned (.int .i64 (lstE n xs)) ∧ Below w.heap.size w w' := by
  have HF := hid (FinM_any sa n cap xs w h hn)
  obtain ⟨E, hE⟩ : ∃ E, Hid (lstE n xs = E) := ⟨_, rfl⟩
  rw [hE.out]
  clear h
  go_enter Try.func38, Try.ntmps38
  go_wp2_with fail
  refine (isSide_any n _).mono ?_
  rintro e w1 ⟨rfl, rfl⟩
  cases h1 : sideB n with
  | false =>
    obtain rfl : E = 1 := by
      rw [← hE.out]; unfold lstE
      rw [if_pos (by unfold sideB at h1; simp at h1; omega)]
    go_wp2_with fail
    go_ret
    exact ⟨rfl, Below.refl _ _⟩
  | true =>
    have HE2 : Hid (E = if finM xs = false then 4 else 0) := by
      show _ = _; rw [← hE.out]; unfold lstE
      rw [if_neg (by unfold sideB at h1; simp at h1; omega)]
    go_wp2_with fail
    refine HF.out.mono ?_
    rintro e w2 ⟨rfl, hb2⟩
    have HB2 := hid hb2
    clear hb2
    cases h4 : finM xs with
    | false =>
      obtain rfl : E = 4 := by rw [HE2.out, if_pos h4]
      go_wp2_with fail
      go_ret
      exact ⟨rfl, HB2.out⟩
    | true =>
      obtain rfl : E = 0 := by rw [HE2.out, if_neg (by simp [h4])]
      go_wp2_with fail
      go_ret
      exact ⟨rfl, HB2.out⟩
set_option maxHeartbeats 400000 in
theorem rRaw_any (r c : Nat) (hr : r ≤ 100) (hc : c ≤ 100) (w : World) : Calls Try.prog 35 #[.int .i64 r, .int .i64 c] w fun e w' => e = .returned (MV r c (some ⟨w.heap.size + 1, 0, none⟩) (r * c) (r * c)) ∧ w'.rowIs (w.heap.size + 1) 57 (r * c) (fun _ => .float .f64 0) ∧ Below w.heap.size w w' := by
  have hp : r * c ≤ 10000 := Nat.mul_le_mul hr hc
  have e1 : (r : Int) * (c : Int) = ((r * c : Nat) : Int) := by simp
  obtain ⟨N, hN⟩ : ∃ p, Hid (r * c = p) := ⟨_, rfl⟩
  rw [hN.out] at e1 hp ⊢
  have hmk := run_make_row' (P := Try.prog) 27 57 (.float .f64 0) 8 Try.underlying27 info_fM rfl .i64 .i64 N (by omega) (by omega)
  have e3 := wrapM N (by omega)
  unfold MV
  clear hr hc
  go_enter Try.func35, Try.ntmps35
  go_wp2_with fail
  refine bodyPost_ret (v := .agg #[.int .i64 r, .int .i64 c, .slice (some ⟨w.heap.size + 1, 0, none⟩) N N]) (by simp [results, Try.results35, go_sem]) rfl ⟨rfl, ?_, ((Below.refl _ _).alloc (Nat.le_refl _) _).alloc (by simp) _⟩
  have := World.rowIs_made (w.alloc (MBox r c (some ⟨w.heap.size + 1, 0, none⟩) N N)) (.float .f64 0) N 57
  rw [World.size_alloc] at this
  exact this
end Go.Proofs.Ytokeialkeadanaa
