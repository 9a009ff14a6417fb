
/- matrix: what is finite, what a matrix is, whether it may be. -/
import Derived.Test.YthakhmnlpmfdgaaP16
import Derived.Test.YthakhmnlpmfdgaaP17
import Derived.Deep.OwnRows
import Derived.Deep.RegionHeld3
namespace Go.Proofs.Ythakhmnlpmfdgaa
open Go.RowKit Go.IntWalk

/-- Whether all numbers of a list are finite. -/
def finM (zs : List Nat) : Bool := zs.all fun z => !(expOf z == 2047)
theorem finM_take (zs : List Nat) (k : Nat) (h : k < zs.length) : finM (zs.take (k + 1)) = (finM (zs.take k) && !(expOf (zs.getD k 0) == 2047)) := by
  unfold finM
  rw [List.take_succ_eq_append_getElem h, List.all_append]
  simp [List.getD, h]
theorem finM_false (zs : List Nat) (k : Nat) (h : finM (zs.take k) = false) : finM zs = false := by
  unfold finM at *
  rw [← List.take_append_drop k zs, List.all_append, h]; rfl
theorem finM_all (zs : List Nat) (k : Nat) (hk : zs.length ≤ k) (h : finM (zs.take k) = true) : finM zs = true := by
  rwa [List.take_of_length_le hk] at h
/-- Numbers in a list, of any place; nil or not. -/
def FlM (w : World) (sa : Option Addr) (n cap : Nat) (xs : List Nat) : Prop := xs.length = n ∧ (∀ x ∈ xs, x < 18446744073709551616) ∧ ((sa = none ∧ n = 0 ∧ cap = 0) ∨ ∃ b off, sa = some ⟨b, off, none⟩ ∧ b < w.heap.size ∧ n ≤ cap ∧ cap ≤ 9223372036854775807 ∧ ∀ j, j < n → w.cell? ⟨b, off + j, none⟩ = some (.float .f64 (xs.getD j 0)))
theorem FlM.below {w w' : World} {sa : Option Addr} {n cap : Nat} {xs : List Nat} (h : FlM w sa n cap xs) (hb : Below w.heap.size w w') : FlM w' sa n cap xs := by
  obtain ⟨h1, h2, h3 | ⟨b, off, h3, h4, h5, h6, h7⟩⟩ := h
  · exact ⟨h1, h2, Or.inl h3⟩
  · exact ⟨h1, h2, Or.inr ⟨b, off, h3, Nat.lt_of_lt_of_le h4 hb.size, h5, h6, fun j hj => by rw [hb.cell (p := ⟨b, off + j, none⟩) h4]; exact h7 j hj⟩⟩
theorem mem_getM (xs : List Nat) (j : Nat) (h : j < xs.length) : xs.getD j 0 ∈ xs := by rw [List.getD_eq_getElem?_getD, List.getElem?_eq_getElem h]; exact List.getElem_mem h
theorem FlM.at {w : World} {sa : Option Addr} {n cap : Nat} {xs : List Nat} (h : FlM w sa n cap xs) (hn : 0 < n) : ∃ b off, sa = some ⟨b, off, none⟩ ∧ b < w.heap.size ∧ (∀ j, j < n → w.cell? ⟨b, off + j, none⟩ = some (.float .f64 (xs.getD j 0))) ∧ ∀ j, j < n → xs.getD j 0 < 18446744073709551616 := by
  obtain ⟨h1, h2, ⟨_, h3, _⟩ | ⟨b, off, h3, h4, _, _, h7⟩⟩ := h
  · omega
  · exact ⟨b, off, h3, h4, h7, fun j hj => h2 _ (mem_getM xs j (by omega))⟩
set_option maxHeartbeats 1000000 in
theorem FinM_some (zs : List Nat) (b off cap : Nat) (w : World) (hb : b < w.heap.size) (hcell : ∀ i, i < zs.length → w.cell? ⟨b, off + i, none⟩ = some (.float .f64 (zs.getD i 0))) (hz : ∀ i, i < zs.length → zs.getD i 0 < 18446744073709551616) (hn : zs.length ≤ 140737488355328) :
    Calls Try.prog 47 #[.slice (some ⟨b, off, none⟩) zs.length cap] w fun r w' => r = .returned (.bool (finM zs)) ∧ Below w.heap.size w w' := by
  have HC := hid hcell
  have HZ := hid hz
  obtain ⟨n, hnl⟩ : ∃ n, Hid (zs.length = n) := ⟨_, rfl⟩
  rw [hnl.out] at hn ⊢
  clear hcell hz
  go_enter Try.func47, Try.ntmps47
  go_wp2
  go_loopw [10] (fun i wr => ∃ k : Nat, k ≤ n ∧ i = .int .i64 k ∧ Hid (finM (zs.take k) = true) ∧ Below w.heap.size w wr) (fun i _ => n - (intOf i).toNat)
  case atStart => exact ⟨0, Nat.zero_le _, rfl, rfl, Below.refl _ _⟩
  case round =>
    obtain ⟨k, hkn, rfl, HA, hbr⟩ := hrel
    by_cases hlt : k < n
    · have hck : wr.cell? ⟨b, off + k, none⟩ = some (.float .f64 (zs.getD k 0)) := by
        rw [hbr.cell (p := ⟨b, off + k, none⟩) hb]
        exact HC.out k (by rw [hnl.out]; exact hlt)
      have HZK : Hid (zs.getD k 0 < 18446744073709551616) := HZ.out k (by rw [hnl.out]; exact hlt)
      have HTK : Hid (finM (zs.take (k + 1)) = (finM (zs.take k) && !(expOf (zs.getD k 0) == 2047))) := finM_take zs k (by rw [hnl.out]; exact hlt)
      obtain ⟨z, hzz⟩ : ∃ z, Hid (zs.getD k 0 = z) := ⟨_, rfl⟩
      rw [hzz.out] at hck HZK HTK
      go_wp2_with (first | (go_at_call 69; refine (Split_any z _ HZK.out).mono ?_; rintro e w1 ⟨rfl, hb1⟩))
      · go_ret
        refine ⟨ret_bool (finM_false zs (k + 1) ?_).symm, bl_then hbr hb1⟩
        have he : expOf z = 2047 := by have : ((expOf z : Int) == 2047) = true := by assumption
                                       rw [beq_iff_eq] at this
                                       omega
        rw [HTK.out, he]; simp
      · have he : (expOf z == 2047) = false := by
          have : ((expOf z : Int) == 2047) = false := by assumption
          rw [beq_eq_false_iff_ne] at this ⊢
          omega
        go_roundw
        case rel => exact ⟨k + 1, by omega, by go_num, by show finM _ = true; rw [HTK.out, HA.out, he]; rfl, bl_then hbr hb1⟩
        case measure => simp [intOf]; omega
    · go_wp2
      go_ret
      exact ⟨ret_bool (finM_all zs k (by rw [hnl.out]; omega) HA.out).symm, hbr⟩
set_option maxHeartbeats 1000000 in
theorem FinM_nil (w : World) : Calls Try.prog 47 #[.slice none 0 0] w fun r w' => r = .returned (.bool true) ∧ Below w.heap.size w w' := by
  go_enter Try.func47, Try.ntmps47
  go_wp2
  go_loopw [10] (fun i wr => i = .int .i64 0 ∧ Below w.heap.size w wr) (fun _ _ => 0)
  case atStart => exact ⟨rfl, Below.refl _ _⟩
  case round =>
    obtain ⟨rfl, hb⟩ := hrel
    go_wp2
    go_ret
    exact ⟨rfl, hb⟩
/-- anatomy.Finite of any list. -/
theorem FinM_any (sa : Option Addr) (n cap : Nat) (xs : List Nat) (w : World) (h : FlM w sa n cap xs) (hn : n ≤ 17592186043904) :
    Calls Try.prog 47 #[.slice sa n cap] w fun r w' => r = .returned (.bool (finM xs)) ∧ Below w.heap.size w w' := by
  obtain ⟨rfl, h2, ⟨rfl, h3, rfl⟩ | ⟨b, off, rfl, h4, _, _, h7⟩⟩ := h
  · have hx : xs = [] := List.length_eq_zero_iff.1 h3
    subst hx
    exact FinM_nil w
  · exact FinM_some xs b off cap w h4 h7 (fun i hi => h2 _ (mem_getM xs i hi)) (by omega)
/-- A matrix as a value; a variable that holds one. -/
def MV (r c : Int) (sa : Option Addr) (n cap : Nat) : Value := .agg #[.int .i64 r, .int .i64 c, .slice sa n cap]
def MBox (r c : Int) (sa : Option Addr) (n cap : Nat) : Obj := .cells #[.int .i64 r, .int .i64 c, .slice sa n cap] 34
theorem mcells_of {w : World} {b : Nat} {r c : Int} {sa : Option Addr} {n cap : Nat} (h : w.heap[b]? = some (MBox r c sa n cap)) : w.cell? ⟨b, 0, none⟩ = some (.int .i64 r) ∧ w.cell? ⟨b, 1, none⟩ = some (.int .i64 c) ∧ w.cell? ⟨b, 2, none⟩ = some (.slice sa n cap) := by
  unfold MBox at h
  refine ⟨?_, ?_, ?_⟩ <;> simp [World.cell?, h]
def sideB (n : Int) : Bool := decide (0 ≤ n) && decide (n ≤ 12)
set_option maxHeartbeats 400000 in
theorem isSide_any (n : Int) (w : World) : Calls Try.prog 89 #[.int .i64 n] w fun r w' => r = .returned (.bool (sideB n)) ∧ w' = w := by
  unfold sideB
  go_enter Try.func89, Try.ntmps89
  go_wp2
  all_goals go_ret
  all_goals (refine ⟨?_, rfl⟩; simp_all <;> omega)
end Go.Proofs.Ythakhmnlpmfdgaa

namespace Go.Proofs.Ythakhmnlpmfdgaa
open Go.RowKit Go.IntWalk
theorem wrapM (x : Nat) (h : x ≤ 1000000) : IntKind.i64.wrap (x : Int) = (x : Int) := IntWalk.i64_in _ (by omega)
set_option maxHeartbeats 400000 in
theorem at_any (r : Int) (sa : Option Addr) (c n cap i j : Nat) (xs : List Nat) (w : World) (h : FlM w sa n cap xs) (hi : i ≤ 100) (hc : c ≤ 100) (hj : j ≤ 100) (hk : i * c + j < n) : Calls Try.prog 72 #[MV r c sa n cap, .int .i64 i, .int .i64 j] w fun r w' => r = .returned (.float .f64 (xs.getD (i * c + j) 0)) ∧ Below w.heap.size w w' := by
  obtain ⟨b, off, rfl, h1, h2, _⟩ := h.at (by omega)
  have hp : i * c ≤ 10000 := Nat.mul_le_mul hi hc
  have hc0 := h2 _ hk
  have e1 : (i : Int) * (c : Int) = ((i * c : Nat) : Int) := by simp
  obtain ⟨p, hp'⟩ : ∃ p, Hid (i * c = p) := ⟨_, rfl⟩
  rw [hp'.out] at e1 hp hk hc0 ⊢
  have e2 : (p : Int) + (j : Int) = ((p + j : Nat) : Int) := by simp
  obtain ⟨k, hk'⟩ : ∃ k, Hid (p + j = k) := ⟨_, rfl⟩
  have e3 := wrapM p (by omega)
  have e4 := wrapM k (by rw [← hk'.out]; omega)
  rw [hk'.out] at e2 hk hc0 ⊢
  have k0 : (0 : Int) ≤ (k : Int) := by omega
  have k1 : (k : Int) < (n : Int) := by omega
  have hcell : (w.alloc (MBox r c (some ⟨b, off, none⟩) n cap)).cell? ⟨b, off + k, none⟩ = some (.float .f64 (xs.getD k 0)) := by
    rw [((Below.refl w.heap.size w).alloc (Nat.le_refl _) _).cell (p := ⟨b, off + k, none⟩) h1]
    exact hc0
  have HB : Hid (Below w.heap.size w (w.alloc (MBox r c (some ⟨b, off, none⟩) n cap))) := (Below.refl _ _).alloc (Nat.le_refl _) _
  obtain ⟨x, hx⟩ : ∃ x, Hid (xs.getD k 0 = x) := ⟨_, rfl⟩
  rw [hx.out] at hcell ⊢
  unfold MBox at HB hcell
  unfold MV
  clear h h1 h2 hc0 hi hc hj hp
  go_enter Try.func72, Try.ntmps72
  go_wp2_with fail
  go_ret
  exact ⟨rfl, HB.out⟩
theorem nblkM (w : World) (o : Obj) : (w.alloc o).heap[w.heap.size]? = some o := (MapKept.heap_alloc w o).1
theorem info_fM : (Try.prog.info? 28).map (fun i => (i.zero, i.size, i.bytes)) = some (some (.float .f64 0), 1, 8) := by kernel_rfl
theorem fstoreM (W : World) (a : Addr) (x : Nat) : (store a (.float .f64 x)).run Try.prog W = stored Try.prog W a (.float .f64 x) .plain := run_store _ _ _ _ _ rfl
set_option maxHeartbeats 400000 in
theorem zeros_any (r c : Nat) (hr : r ≤ 100) (hc : c ≤ 100) (w : World) : Calls Try.prog 102 #[.int .i64 r, .int .i64 c] w fun e w' => e = .returned (MV r c (some ⟨w.heap.size + 1, 0, none⟩) (r * c) (r * c)) ∧ w'.rowIs (w.heap.size + 1) 28 (r * c) (fun _ => .float .f64 0) ∧ Below w.heap.size w w' := by
  have hp : r * c ≤ 10000 := Nat.mul_le_mul hr hc
  have e1 : (r : Int) * (c : Int) = ((r * c : Nat) : Int) := by simp
  obtain ⟨N, hN⟩ : ∃ p, Hid (r * c = p) := ⟨_, rfl⟩
  rw [hN.out] at e1 hp ⊢
  have hmk := run_make_row' (P := Try.prog) 32 28 (.float .f64 0) 8 Try.underlying32 info_fM rfl .i64 .i64 N (by omega) (by omega)
  have e3 := wrapM N (by omega)
  unfold MV
  clear hr hc
  go_enter Try.func102, Try.ntmps102
  go_wp2_with fail
  refine bodyPost_ret (v := .agg #[.int .i64 r, .int .i64 c, .slice (some ⟨w.heap.size + 1, 0, none⟩) N N]) (by simp [results, Try.results102, go_sem]) rfl ⟨rfl, ?_, ((Below.refl _ _).alloc (Nat.le_refl _) _).alloc (by simp) _⟩
  have := World.rowIs_made (w.alloc (MBox r c (some ⟨w.heap.size + 1, 0, none⟩) N N)) (.float .f64 0) N 28
  rw [World.size_alloc] at this
  exact this
/-- What is wrong with a matrix. -/
def chkM (r c : Int) (n : Nat) (xs : List Nat) : Int := if sideB r = false ∨ sideB c = false then 1 else if (n : Int) ≠ r * c then 3 else if finM xs = false then 4 else 0
set_option maxHeartbeats 1000000 in
theorem Check_any (r c : Int) (sa : Option Addr) (n cap : Nat) (xs : List Nat) (w : World) (h : FlM w sa n cap xs) (hn : n ≤ 17592186043904) : Calls Try.prog 66 #[MV r c sa n cap] w fun e w' => e = .returned (.int .i64 (chkM r c n xs)) ∧ Below w.heap.size w w' := by
  have HB0 : Hid (Below w.heap.size w (w.alloc (MBox r c sa n cap))) := (Below.refl _ _).alloc (Nat.le_refl _) _
  obtain ⟨z0, z1, z2⟩ := mcells_of (w := w.alloc (MBox r c sa n cap)) (b := w.heap.size) (nblkM _ _)
  obtain ⟨W0, hW0⟩ : ∃ V, Hid (w.alloc (MBox r c sa n cap) = V) := ⟨_, rfl⟩
  rw [hW0.out] at HB0 z0 z1 z2
  have HF := hid (FinM_any sa n cap xs W0 (h.below HB0.out) hn)
  have hW := hW0.out
  unfold MBox at hW
  obtain ⟨E, hE⟩ : ∃ E, Hid (chkM r c n xs = E) := ⟨_, rfl⟩
  rw [hE.out]
  unfold MV
  clear h
  go_enter Try.func66, Try.ntmps66
  go_wp2_with fail
  refine (isSide_any r _).mono ?_
  rintro e w1 ⟨rfl, rfl⟩
  cases h1 : sideB r with
  | false =>
    obtain rfl : E = 1 := by rw [← hE.out]; unfold chkM; rw [if_pos (Or.inl h1)]
    go_wp2_with fail
    go_ret
    exact ⟨rfl, HB0.out⟩
  | true =>
    go_wp2_with fail
    refine (isSide_any c _).mono ?_
    rintro e w1 ⟨rfl, rfl⟩
    cases h2 : sideB c with
    | false =>
      obtain rfl : E = 1 := by rw [← hE.out]; unfold chkM; rw [if_pos (Or.inr h2)]
      go_wp2_with fail
      go_ret
      exact ⟨rfl, HB0.out⟩
    | true =>
      have hr : 0 ≤ r ∧ r ≤ 12 := by unfold sideB at h1; simpa using h1
      have hc : 0 ≤ c ∧ c ≤ 12 := by unfold sideB at h2; simpa using h2
      have hE2 : E = if (n : Int) ≠ r * c then 3 else if finM xs = false then 4 else 0 := by rw [← hE.out]; unfold chkM; rw [if_neg (by simp [h1, h2])]
      obtain ⟨a, rfl⟩ := Int.eq_ofNat_of_zero_le hr.1
      obtain ⟨b, rfl⟩ := Int.eq_ofNat_of_zero_le hc.1
      have hp : a * b ≤ 12 * 12 := Nat.mul_le_mul (by omega) (by omega)
      have e1 : (a : Int) * (b : Int) = ((a * b : Nat) : Int) := by simp
      obtain ⟨N, hN⟩ : ∃ p, Hid (a * b = p) := ⟨_, rfl⟩
      rw [hN.out] at e1 hp
      rw [e1] at hE2
      have e3 := wrapM N (by omega)
      by_cases h3 : (n : Int) = (N : Int)
      · have hne : ((n : Int) != (N : Int)) = false := by simp [h3]
        rw [if_neg (by simpa using h3)] at hE2
        have HE2 := hid hE2
        clear h1 h2 hr hc hp hE2 h3
        go_wp2_with fail
        refine HF.out.mono ?_
        rintro e w2 ⟨rfl, hb2⟩
        have HB2 := hid (HB0.out.trans (hb2.mono HB0.out.size))
        clear hb2
        cases h4 : finM xs with
        | false =>
          obtain rfl : E = 4 := by rw [HE2.out, if_pos h4]
          go_wp2_with fail
          go_ret
          exact ⟨rfl, HB2.out⟩
        | true =>
          obtain rfl : E = 0 := by rw [HE2.out, if_neg (by simp [h4])]
          go_wp2_with fail
          go_ret
          exact ⟨rfl, HB2.out⟩
      · have hne : ((n : Int) != (N : Int)) = true := by simpa using h3
        obtain rfl : E = 3 := by rw [hE2, if_pos h3]
        clear h1 h2 hr hc hp hE2 h3
        go_wp2_with fail
        go_ret
        exact ⟨rfl, HB0.out⟩
end Go.Proofs.Ythakhmnlpmfdgaa
