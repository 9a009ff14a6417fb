
/- The document's AllFinite, Check, First, If, List of matrices and lists; the law's told and list. -/
import Derived.Test.YtehgiegmdpaomaaP34
import Derived.Test.YtehgiegmdpaomaaP19
import Derived.Test.YtehgiegmdpaomaaP28
import Derived.Test.YtehgiegmdpaomaaP36
namespace Go.Proofs.Ytehgiegmdpaomaa
open Go.RowKit Go.IntWalk

set_option maxHeartbeats 1000000 in
theorem rall_some (zs : List Nat) (b off cap : Nat) (w : World) (hcell : ∀ i, i < zs.length → w.cell? ⟨b, off + i, none⟩ = some (.float .f64 (zs.getD i 0))) (hz : ∀ i, i < zs.length → zs.getD i 0 < 18446744073709551616) (hn : zs.length ≤ 140737488355328) :
    Calls Try.prog 21 #[.slice (some ⟨b, off, none⟩) zs.length cap] w fun r w' => r = .returned (.bool (finM zs)) ∧ w' = w := by
  have HC := hid hcell
  have HZ := hid hz
  obtain ⟨n, hnl⟩ : ∃ n, Hid (zs.length = n) := ⟨_, rfl⟩
  rw [hnl.out] at hn ⊢
  clear hcell hz
  go_enter Try.func21, Try.ntmps21
  go_wp2
  go_loopw [7] (fun i wr => ∃ k : Nat, k ≤ n ∧ i = .int .i64 k ∧ Hid (finM (zs.take k) = true) ∧ wr = w) (fun i _ => n - (intOf i).toNat)
  case atStart => exact ⟨0, Nat.zero_le _, rfl, rfl, rfl⟩
  case round =>
    obtain ⟨k, hkn, rfl, HA, rfl⟩ := hrel
    by_cases hlt : k < n
    · have hck := HC.out k (by rw [hnl.out]; exact hlt)
      have HF := hid (fun W => rfinite_any (zs.getD k 0) W (HZ.out k (by rw [hnl.out]; exact hlt)))
      have HTK : Hid (finM (zs.take (k + 1)) = (finM (zs.take k) && !(expOf (zs.getD k 0) == 2047))) := finM_take zs k (by rw [hnl.out]; exact hlt)
      obtain ⟨z, hzz⟩ : ∃ z, Hid (zs.getD k 0 = z) := ⟨_, rfl⟩
      rw [hzz.out] at hck HF HTK
      cases he : (expOf z == 2047) with
      | true =>
        rw [he] at HF HTK
        go_wp2_with fail
        refine (HF.out _).mono ?_
        rintro e w1 ⟨rfl, rfl⟩
        go_wp2_with fail
        go_ret
        exact ⟨ret_bool (finM_false zs (k + 1) (by rw [HTK.out]; simp)).symm, rfl⟩
      | false =>
        rw [he] at HF HTK
        go_wp2_with fail
        refine (HF.out _).mono ?_
        rintro e w1 ⟨rfl, rfl⟩
        go_wp2_with fail
        refine ⟨⟨k + 1, by omega, by go_num, by show finM _ = true; rw [HTK.out, HA.out]; rfl, trivial⟩, ?_⟩
        simp [intOf]; omega
    · go_wp2
      go_ret
      exact ⟨ret_bool (finM_all zs k (by rw [hnl.out]; omega) HA.out).symm, rfl⟩
set_option maxHeartbeats 1000000 in
theorem rall_nil (w : World) : Calls Try.prog 21 #[.slice none 0 0] w fun r w' => r = .returned (.bool true) ∧ w' = w := by
  go_enter Try.func21, Try.ntmps21
  go_wp2
  go_loopw [7] (fun i wr => i = .int .i64 0 ∧ wr = w) (fun _ _ => 0)
  case atStart => exact ⟨rfl, rfl⟩
  case round =>
    obtain ⟨rfl, rfl⟩ := hrel
    go_wp2
    go_ret
    exact ⟨rfl, rfl⟩
/-- The document's AllFinite of any list. -/
theorem rall_any (sa : Option Addr) (n cap : Nat) (xs : List Nat) (w : World) (h : FlM w sa n cap xs) (hn : n ≤ 17592186043904) :
    Calls Try.prog 21 #[.slice sa n cap] w fun r w' => r = .returned (.bool (finM xs)) ∧ w' = w := by
  obtain ⟨rfl, h2, ⟨rfl, h3, rfl⟩ | ⟨b, off, rfl, h4, _, _, h7⟩⟩ := h
  · have hx : xs = [] := List.length_eq_zero_iff.1 h3
    subst hx
    exact rall_nil w
  · exact rall_some xs b off cap w h7 (fun i hi => h2 _ (mem_getM xs i hi)) (by omega)
set_option maxHeartbeats 1000000 in
theorem rCheck_any (r c : Int) (sa : Option Addr) (n cap : Nat) (xs : List Nat) (w : World) (h : FlM w sa n cap xs) (hn : n ≤ 17592186043904) : Calls Try.prog 7 #[.agg #[.int .i64 r, .int .i64 c, .slice sa n cap]] w fun e w' => e = .returned (.int .i64 (chkM r c n xs)) ∧ Below w.heap.size w w' := by
  have HB0 : Hid (Below w.heap.size w (w.alloc (MBox r c sa n cap))) := (Below.refl _ _).alloc (Nat.le_refl _) _
  obtain ⟨z0, z1, z2⟩ := mcells_of (w := w.alloc (MBox r c sa n cap)) (b := w.heap.size) (nblkM _ _)
  obtain ⟨W0, hW0⟩ : ∃ V, Hid (w.alloc (MBox r c sa n cap) = V) := ⟨_, rfl⟩
  rw [hW0.out] at HB0 z0 z1 z2
  have HF := hid (rall_any sa n cap xs W0 (h.below HB0.out) hn)
  have hW := hW0.out
  unfold MBox at hW
  obtain ⟨E, hE⟩ : ∃ E, Hid (chkM r c n xs = E) := ⟨_, rfl⟩
  rw [hE.out]
  clear h
  by_cases h1 : r < 0
  · obtain rfl : E = 1 := by rw [← hE.out]; unfold chkM; rw [if_pos (Or.inl (by unfold sideB; simp; omega))]
    go_enter Try.func7, Try.ntmps7
    go_wp2_with fail
    go_ret
    exact ⟨rfl, HB0.out⟩
  by_cases h2 : 12 < r
  · obtain rfl : E = 1 := by rw [← hE.out]; unfold chkM; rw [if_pos (Or.inl (by unfold sideB; simp; omega))]
    go_enter Try.func7, Try.ntmps7
    go_wp2_with fail
    go_ret
    exact ⟨rfl, HB0.out⟩
  by_cases h3 : c < 0
  · obtain rfl : E = 1 := by rw [← hE.out]; unfold chkM; rw [if_pos (Or.inr (by unfold sideB; simp; omega))]
    go_enter Try.func7, Try.ntmps7
    go_wp2_with fail
    go_ret
    exact ⟨rfl, HB0.out⟩
  by_cases h4 : 12 < c
  · obtain rfl : E = 1 := by rw [← hE.out]; unfold chkM; rw [if_pos (Or.inr (by unfold sideB; simp; omega))]
    go_enter Try.func7, Try.ntmps7
    go_wp2_with fail
    go_ret
    exact ⟨rfl, HB0.out⟩
  have hE2 : E = if (n : Int) ≠ r * c then 3 else if finM xs = false then 4 else 0 := by
    rw [← hE.out]
    unfold chkM
    rw [if_neg (by unfold sideB; simp; omega)]
  obtain ⟨a, rfl⟩ := Int.eq_ofNat_of_zero_le (show 0 ≤ r by omega)
  obtain ⟨b, rfl⟩ := Int.eq_ofNat_of_zero_le (show 0 ≤ c by omega)
  have hp : a * b ≤ 12 * 12 := Nat.mul_le_mul (by omega) (by omega)
  have e1 : (a : Int) * (b : Int) = ((a * b : Nat) : Int) := by simp
  obtain ⟨N, hN⟩ : ∃ p, Hid (a * b = p) := ⟨_, rfl⟩
  rw [hN.out] at e1 hp
  rw [e1] at hE2
  have e3 := wrapM N (by omega)
  by_cases h5 : (n : Int) = (N : Int)
  · have hne : ((n : Int) != (N : Int)) = false := by simp [h5]
    rw [if_neg (by simpa using h5)] at hE2
    have HE2 := hid hE2
    clear hp hE2 h5
    cases h6 : finM xs with
    | false =>
      obtain rfl : E = 4 := by rw [HE2.out, if_pos h6]
      rw [h6] at HF
      go_enter Try.func7, Try.ntmps7
      go_wp2_with fail
      refine HF.out.mono ?_
      rintro e w2 ⟨rfl, rfl⟩
      go_wp2_with fail
      go_ret
      exact ⟨rfl, HB0.out⟩
    | true =>
      obtain rfl : E = 0 := by rw [HE2.out, if_neg (by simp [h6])]
      rw [h6] at HF
      go_enter Try.func7, Try.ntmps7
      go_wp2_with fail
      refine HF.out.mono ?_
      rintro e w2 ⟨rfl, rfl⟩
      go_wp2_with fail
      go_ret
      exact ⟨rfl, HB0.out⟩
  · have hne : ((n : Int) != (N : Int)) = true := by simpa using h5
    obtain rfl : E = 3 := by rw [hE2, if_pos h5]
    clear hp hE2 h5
    go_enter Try.func7, Try.ntmps7
    go_wp2_with fail
    go_ret
    exact ⟨rfl, HB0.out⟩
/-- The first error of a list. -/
def firstL : List Int → Int
  | [] => 0
  | x :: xs => if x = 0 then firstL xs else x
theorem firstL_take (xs : List Int) (k : Nat) (h : ∀ j, j < k → xs.getD j 0 = 0) : firstL xs = firstL (xs.drop k) := by
  induction k generalizing xs with
  | zero => rfl
  | succ k ih =>
    cases xs with
    | nil => rfl
    | cons x xs =>
      have h0 := h 0 (by omega)
      simp at h0
      rw [List.drop_succ_cons, firstL, if_pos h0]
      exact ih xs (fun j hj => by have := h (j + 1) (by omega); simpa using this)
end Go.Proofs.Ytehgiegmdpaomaa

namespace Go.Proofs.Ytehgiegmdpaomaa
open Go.RowKit Go.IntWalk

/-- What is wrong with a list. -/
def lstE (n : Nat) (xs : List Nat) : Int := if 12 < n then 1 else if finM xs = false then 4 else 0
set_option maxHeartbeats 400000 in
theorem rRaw_any (r c : Nat) (hr : r ≤ 100) (hc : c ≤ 100) (w : World) : Calls Try.prog 34 #[.int .i64 r, .int .i64 c] w fun e w' => e = .returned (MV r c (some ⟨w.heap.size + 1, 0, none⟩) (r * c) (r * c)) ∧ w'.rowIs (w.heap.size + 1) 42 (r * c) (fun _ => .float .f64 0) ∧ Below w.heap.size w w' := by
  have hp : r * c ≤ 10000 := Nat.mul_le_mul hr hc
  have e1 : (r : Int) * (c : Int) = ((r * c : Nat) : Int) := by simp
  obtain ⟨N, hN⟩ : ∃ p, Hid (r * c = p) := ⟨_, rfl⟩
  rw [hN.out] at e1 hp ⊢
  have hmk := run_make_row' (P := Try.prog) 27 42 (.float .f64 0) 8 Try.underlying27 info_fM rfl .i64 .i64 N (by omega) (by omega)
  have e3 := wrapM N (by omega)
  unfold MV
  clear hr hc
  go_enter Try.func34, Try.ntmps34
  go_wp2_with fail
  refine bodyPost_ret (v := .agg #[.int .i64 r, .int .i64 c, .slice (some ⟨w.heap.size + 1, 0, none⟩) N N]) (by simp [results, Try.results34, go_sem]) rfl ⟨rfl, ?_, ((Below.refl _ _).alloc (Nat.le_refl _) _).alloc (by simp) _⟩
  have := World.rowIs_made (w.alloc (MBox r c (some ⟨w.heap.size + 1, 0, none⟩) N N)) (.float .f64 0) N 42
  rw [World.size_alloc] at this
  exact this
end Go.Proofs.Ytehgiegmdpaomaa

namespace Go.Proofs.Ytehgiegmdpaomaa
open Go.RowKit Go.IntWalk

/-- A variable that holds an int. -/
def IBox (i : Int) : Obj := .cells #[.int .i64 i] 3
theorem icell_of {w : World} {b : Nat} {i : Int} (h : w.heap[b]? = some (IBox i)) : w.cell? ⟨b, 0, none⟩ = some (.int .i64 i) := by
  unfold IBox at h
  simp [World.cell?, h]
set_option maxRecDepth 4000 in
set_option maxHeartbeats 1000000 in
theorem clo_part (a b : Nat) (p0 p1 p2 : Nat) (ra ca i j : Nat) (sa : Option Addr) (na ka : Nat) (f : Nat → Nat) (w : World) (h0 : w.heap[p0]? = some (MBox ra ca sa na ka)) (h1 : w.heap[p1]? = some (IBox i)) (h2 : w.heap[p2]? = some (IBox j)) (ha : FnM w sa na ka f) (hc : ca ≤ 12) (hi : i + a ≤ 100) (hj : j + b ≤ 100) (hia : (i + a) * ca + (j + b) < na) :
    Calls Try.prog 49 #[.int .i64 a, .int .i64 b, .pointer (some ⟨p0, 0, none⟩), .pointer (some ⟨p1, 0, none⟩), .pointer (some ⟨p2, 0, none⟩)] w fun e w' => ∃ x : Nat, e = .returned (.float .f64 x) ∧ (x = f ((i + a) * ca + (j + b)) ∧ x < 18446744073709551616) ∧ Below w.heap.size w w' := by
  obtain ⟨a0, a1, a2⟩ := mcells_of h0
  have b0 := icell_of h1
  have c0 := icell_of h2
  have HAT := hid (at_fn ra sa ca na ka (i + a) (j + b) f w ha (by omega) (by omega) (by omega) hia)
  have HLT := hid (fn_lt ha _ hia)
  have e1 : (i : Int) + (a : Int) = ((i + a : Nat) : Int) := by simp
  have e2 : (j : Int) + (b : Int) = ((j + b : Nat) : Int) := by simp
  have e3 := wrapM (i + a) (by omega)
  have e4 := wrapM (j + b) (by omega)
  obtain ⟨I, hI⟩ : ∃ t, Hid (i + a = t) := ⟨_, rfl⟩
  obtain ⟨J, hJ⟩ : ∃ t, Hid (j + b = t) := ⟨_, rfl⟩
  rw [hI.out] at e1 e3
  rw [hJ.out] at e2 e4
  rw [hI.out, hJ.out] at HAT HLT ⊢
  have n1 : -9223372036854775808 ≤ (I : Int) := by omega
  have n2 : (I : Int) ≤ 9223372036854775807 := by have := hI.out; omega
  have n3 : -9223372036854775808 ≤ (J : Int) := by omega
  have n4 : (J : Int) ≤ 9223372036854775807 := by have := hJ.out; omega
  unfold MV at HAT
  clear h0 h1 h2 ha hc hi hj hia
  go_enter Try.func49, Try.ntmps49
  go_wp2_with fail
  refine HAT.out.mono ?_
  rintro e w1 ⟨rfl, hb1⟩
  have HB := hid hb1
  clear hb1
  go_wp2_with fail
  go_ret
  exact ⟨_, rfl, ⟨rfl, HLT.out⟩, HB.out⟩
theorem four_b (w : World) (A B C R : Obj) : ((((w.alloc A).alloc B).alloc C).alloc R).heap[w.heap.size]? = some A ∧ ((((w.alloc A).alloc B).alloc C).alloc R).heap[w.heap.size + 1]? = some B ∧ ((((w.alloc A).alloc B).alloc C).alloc R).heap[w.heap.size + 1 + 1]? = some C ∧ ((((w.alloc A).alloc B).alloc C).alloc R).heap[w.heap.size + 1 + 1 + 1]? = some R ∧ Below w.heap.size w ((((w.alloc A).alloc B).alloc C).alloc R) := by
  obtain ⟨h1, h2, h3, h4, h5⟩ := three_b w A B C
  have hb : Below (((w.alloc A).alloc B).alloc C).heap.size (((w.alloc A).alloc B).alloc C) ((((w.alloc A).alloc B).alloc C).alloc R) := (Below.refl _ _).alloc (Nat.le_refl _) R
  refine ⟨blkM h1 hb, blkM h2 hb, blkM h3 hb, ?_, h4.trans (hb.mono h4.size)⟩
  have := nblkM (((w.alloc A).alloc B).alloc C) R
  rw [h5] at this
  exact this
set_option maxRecDepth 4000 in
set_option maxHeartbeats 1000000 in
theorem part_any (ra ca n i j r c : Nat) (sa : Option Addr) (cap : Nat) (f : Nat → Nat) (w : World) (h : FnM w sa n cap f) (hn : n = ra * ca) (hra : ra ≤ 12) (hca : ca ≤ 12) (hr : i + r ≤ ra) (hc : j + c ≤ ca) :
    Calls Try.prog 24 #[.agg #[.int .i64 ra, .int .i64 ca, .slice sa n cap], .int .i64 i, .int .i64 j, .int .i64 r, .int .i64 c] w fun e w' => (∃ (g : Nat) (o : Nat → Nat), e = .returned (.agg #[.int .i64 r, .int .i64 c, .slice (some ⟨g, 0, none⟩) (r * c) (r * c)]) ∧ w.heap.size ≤ g ∧ w'.rowIs g 42 (r * c) (fun k => .float .f64 (o k)) ∧ ∀ a b, a < r → b < c → o (a * c + b) = f ((i + a) * ca + (j + b)) ∧ o (a * c + b) < 18446744073709551616) ∧ Below w.heap.size w w' := by
  obtain ⟨t1, t2, t3, t4, t5⟩ := four_b w (MBox ra ca sa n cap) (IBox i) (IBox j) (MBox 0 0 none 0 0)
  have HF := hid (fill_part r c (by omega) (by omega) ⟨w.heap.size, 0, none⟩ ⟨w.heap.size + 1, 0, none⟩ ⟨w.heap.size + 1 + 1, 0, none⟩ (fun a b x => x = f ((i + a) * ca + (j + b))) _ (fun W a b hW ha hb => clo_part a b w.heap.size (w.heap.size + 1) (w.heap.size + 1 + 1) ra ca i j sa n cap f W (blkM t1 hW) (blkM t2 hW) (blkM t3 hW) ((h.below t5).below hW) hca (by omega) (by omega) (by rw [hn]; exact place_lt (by omega) (by omega))))
  obtain ⟨V, hV⟩ : ∃ V, Hid ((((w.alloc (MBox ra ca sa n cap)).alloc (IBox i)).alloc (IBox j)).alloc (MBox 0 0 none 0 0) = V) := ⟨_, rfl⟩
  rw [hV.out] at HF t1 t2 t3 t4 t5
  have HR := hid t4
  have HB := hid t5
  have HS : Hid (w.heap.size + 1 + 1 + 1 < V.heap.size) := (Array.getElem?_eq_some_iff.1 t4).1
  have hV' := hV.out
  unfold MBox IBox at hV'
  obtain ⟨N, hN⟩ : ∃ p, Hid (r * c = p) := ⟨_, rfl⟩
  rw [hN.out] at HF ⊢
  clear t1 t2 t3 t4 t5 h hn hra hca hr hc
  go_enter Try.func24, Try.ntmps24
  go_wp2_with fail
  refine HF.out.mono ?_
  rintro e w1 ⟨⟨g, o, rfl, hg, hrow, hP⟩, hb1⟩
  have HR1 := hid (blkM HR.out hb1)
  have HB1 := hid (HB.out.trans (hb1.mono HB.out.size))
  have HG := hid (And.intro hg (And.intro hrow hP))
  obtain ⟨r0, r1, r2⟩ := mcells_of HR1.out
  have fz := frzM HR1.out
  unfold MV
  clear hb1 hg hrow hP
  go_wp2_with fail
  exact bodyPost_ret (v := .agg #[.int .i64 r, .int .i64 c, .slice (some ⟨g, 0, none⟩) N N]) (by simp [results, Try.results24, go_sem, r0, r1, r2]) rfl ⟨⟨g, o, rfl, by have := HG.out.1; have := HS.out; omega, HG.out.2.1.of_block (StoM.keep (by have := HG.out.1; have := HS.out; omega)), HG.out.2.2⟩, StoM.below HB1.out (by omega)⟩
/-- What checkSpan tells. -/
def spanE (E r c i j a b : Int) : Int := if E ≠ 0 then E else if i < 0 ∨ j < 0 ∨ r - a < i ∨ c - b < j then 1 else 0
set_option maxRecDepth 4000 in
set_option maxHeartbeats 1000000 in
theorem span_any (r c : Int) (sa : Option Addr) (n cap : Nat) (xs : List Nat) (i j a b : Int) (w : World) (h : FlM w sa n cap xs) (hn : n ≤ 17592186043904) (ha : 0 ≤ a ∧ a ≤ 1) (hb : 0 ≤ b ∧ b ≤ 1) : Calls Try.prog 22 #[.agg #[.int .i64 r, .int .i64 c, .slice sa n cap], .int .i64 i, .int .i64 j, .int .i64 a, .int .i64 b] w fun e w' => e = .returned (.int .i64 (spanE (chkM r c n xs) r c i j a b)) ∧ Below w.heap.size w w' := by
  have HB0 : Hid (Below w.heap.size w (w.alloc (MBox r c sa n cap))) := (Below.refl _ _).alloc (Nat.le_refl _) _
  have HA0 : Hid ((w.alloc (MBox r c sa n cap)).heap[w.heap.size]? = some (MBox r c sa n cap)) := nblkM _ _
  obtain ⟨V, hV⟩ : ∃ V, Hid (w.alloc (MBox r c sa n cap) = V) := ⟨_, rfl⟩
  rw [hV.out] at HB0 HA0
  have HF := hid (Check_any r c sa n cap xs V (h.below HB0.out) hn)
  have HSD : Hid (chkM r c n xs = 0 → 0 ≤ r ∧ r ≤ 12 ∧ 0 ≤ c ∧ c ≤ 12) := fun hz => by
    obtain ⟨p, q, rfl, rfl, h1, h2, _, _⟩ := chk_some hz
    omega
  have hV' := hV.out
  unfold MBox at hV'
  unfold MV at HF
  obtain ⟨x0, x1, x2⟩ := mcells_of HA0.out
  obtain ⟨E, hE⟩ : ∃ E, Hid (chkM r c n xs = E) := ⟨_, rfl⟩
  rw [hE.out] at HF HSD ⊢
  clear h hn
  by_cases hE0 : E = 0
  · subst hE0
    obtain ⟨s1, s2, s3, s4⟩ := HSD.out rfl
    have a1 := ha.1
    have a2 := ha.2
    have b1 := hb.1
    have b2 := hb.2
    have na : ¬ a < 0 := by omega
    have nb : ¬ b < 0 := by omega
    obtain ⟨ra, hra⟩ : ∃ t, Hid (r - a = t) := ⟨_, rfl⟩
    obtain ⟨cb, hcb⟩ : ∃ t, Hid (c - b = t) := ⟨_, rfl⟩
    have ra' := hra.out
    have cb' := hcb.out
    have m1 : -9223372036854775808 ≤ ra := by omega
    have m2 : ra ≤ 9223372036854775807 := by omega
    have m3 : -9223372036854775808 ≤ cb := by omega
    have m4 : cb ≤ 9223372036854775807 := by omega
    obtain ⟨F, hF⟩ : ∃ F, Hid (spanE 0 r c i j a b = F) := ⟨_, rfl⟩
    have HFD : Hid (F = if i < 0 ∨ j < 0 ∨ ra < i ∨ cb < j then 1 else 0) := by show _ = _; rw [← hF.out, ← hra.out, ← hcb.out]; unfold spanE; rw [if_neg (by decide)]
    rw [hF.out]
    clear ha hb a1 a2 b1 b2 s1 s2 s3 s4
    by_cases d1 : i < 0
    · obtain rfl : F = 1 := by rw [HFD.out, if_pos (Or.inl d1)]
      go_enter Try.func22, Try.ntmps22
      go_wp2_with fail
      refine HF.out.mono ?_
      rintro e w2 ⟨rfl, hb2⟩
      have HB2 := hid (HB0.out.trans (hb2.mono HB0.out.size))
      obtain ⟨y0, y1, y2⟩ := mcells_of (blkM HA0.out hb2)
      clear hb2
      go_wp2_with fail
      go_ret
      exact ⟨rfl, HB2.out⟩
    by_cases d2 : j < 0
    · obtain rfl : F = 1 := by rw [HFD.out, if_pos (Or.inr (Or.inl d2))]
      go_enter Try.func22, Try.ntmps22
      go_wp2_with fail
      refine HF.out.mono ?_
      rintro e w2 ⟨rfl, hb2⟩
      have HB2 := hid (HB0.out.trans (hb2.mono HB0.out.size))
      obtain ⟨y0, y1, y2⟩ := mcells_of (blkM HA0.out hb2)
      clear hb2
      go_wp2_with fail
      go_ret
      exact ⟨rfl, HB2.out⟩
    by_cases d3 : ra < i
    · obtain rfl : F = 1 := by rw [HFD.out, if_pos (Or.inr (Or.inr (Or.inl d3)))]
      go_enter Try.func22, Try.ntmps22
      go_wp2_with fail
      refine HF.out.mono ?_
      rintro e w2 ⟨rfl, hb2⟩
      have HB2 := hid (HB0.out.trans (hb2.mono HB0.out.size))
      obtain ⟨y0, y1, y2⟩ := mcells_of (blkM HA0.out hb2)
      clear hb2
      go_wp2_with fail
      go_ret
      exact ⟨rfl, HB2.out⟩
    by_cases d4 : cb < j
    · obtain rfl : F = 1 := by rw [HFD.out, if_pos (Or.inr (Or.inr (Or.inr d4)))]
      go_enter Try.func22, Try.ntmps22
      go_wp2_with fail
      refine HF.out.mono ?_
      rintro e w2 ⟨rfl, hb2⟩
      have HB2 := hid (HB0.out.trans (hb2.mono HB0.out.size))
      obtain ⟨y0, y1, y2⟩ := mcells_of (blkM HA0.out hb2)
      clear hb2
      go_wp2_with fail
      go_ret
      exact ⟨rfl, HB2.out⟩
    obtain rfl : F = 0 := by rw [HFD.out, if_neg (fun h => by rcases h with h | h | h | h <;> contradiction)]
    go_enter Try.func22, Try.ntmps22
    go_wp2_with fail
    refine HF.out.mono ?_
    rintro e w2 ⟨rfl, hb2⟩
    have HB2 := hid (HB0.out.trans (hb2.mono HB0.out.size))
    obtain ⟨y0, y1, y2⟩ := mcells_of (blkM HA0.out hb2)
    clear hb2
    go_wp2_with fail
    go_ret
    exact ⟨rfl, HB2.out⟩
  · have hne : (E != 0) = true := by simpa using hE0
    have e1 : spanE E r c i j a b = E := by unfold spanE; rw [if_pos hE0]
    rw [e1]
    clear hE0 e1 ha hb
    go_enter Try.func22, Try.ntmps22
    go_wp2_with fail
    refine HF.out.mono ?_
    rintro e w2 ⟨rfl, hb2⟩
    have HB2 := hid (HB0.out.trans (hb2.mono HB0.out.size))
    clear hb2
    go_wp2_with fail
    go_ret
    exact ⟨rfl, HB2.out⟩
end Go.Proofs.Ytehgiegmdpaomaa

namespace Go.Proofs.Ytehgiegmdpaomaa
open Go.RowKit Go.IntWalk

theorem field2_run (a b c : Value) (w : World) : (Instr.field 29 (.agg #[a, b, c]) 2).run Try.prog w = .ok c w := by
  unfold Instr.field
  simp [go_sem]
  rfl
theorem span_zero {r c i j a b : Int} {n : Nat} {xs : List Nat} (h : spanE (chkM r c n xs) r c i j a b = 0) : chkM r c n xs = 0 ∧ ∃ R C p q : Nat, r = R ∧ c = C ∧ i = p ∧ j = q ∧ (p : Int) + a ≤ R ∧ (q : Int) + b ≤ C ∧ R ≤ 12 ∧ C ≤ 12 ∧ n = R * C ∧ finM xs = true := by
  unfold spanE at h
  by_cases hE : chkM r c n xs = 0
  · rw [if_neg (fun hc => hc hE)] at h
    by_cases hd : i < 0 ∨ j < 0 ∨ r - a < i ∨ c - b < j
    · rw [if_pos hd] at h; cases h
    · obtain ⟨R, C, rfl, rfl, h1, h2, h3, h4⟩ := chk_some hE
      obtain ⟨p, rfl⟩ := Int.eq_ofNat_of_zero_le (show 0 ≤ i by omega)
      obtain ⟨q, rfl⟩ := Int.eq_ofNat_of_zero_le (show 0 ≤ j by omega)
      exact ⟨hE, R, C, p, q, rfl, rfl, rfl, rfl, by omega, by omega, h1, h2, h3, h4⟩
  · rw [if_pos hE] at h
    exact absurd h hE
/-- A list handed back: numbers told by a function, or nothing. -/
def LstR (E : Int) (m : Nat) (g : Nat → Nat) (W : World) (s : Option Addr) (k cap : Nat) : Prop := (E = 0 ∧ k = m ∧ FnM W s k cap g) ∨ (E ≠ 0 ∧ s = none ∧ k = 0 ∧ cap = 0)
theorem LstR.below {E : Int} {m : Nat} {g : Nat → Nat} {W W' : World} {s : Option Addr} {k cap : Nat} (h : LstR E m g W s k cap) (hb : Below W.heap.size W W') : LstR E m g W' s k cap := by
  rcases h with ⟨h0, h1, h2⟩ | h
  · exact Or.inl ⟨h0, h1, h2.below hb⟩
  · exact Or.inr h
end Go.Proofs.Ytehgiegmdpaomaa

namespace Go.Proofs.Ytehgiegmdpaomaa
open Go.RowKit Go.IntWalk

/-- What With tells. -/
def withE (F : Int) (x : Nat) : Int := if F ≠ 0 then F else if finB x = true then 0 else 4
/-- What With hands back. -/
def WthR (G : Int) (r c : Int) (n p x : Nat) (f : Nat → Nat) (W : World) (X0 X1 : Int) (X2 : Option Addr) (X3 X4 : Nat) : Prop :=
  (G = 0 ∧ X0 = r ∧ X1 = c ∧ X3 = n ∧ ∃ o : Nat → Nat, FnM W X2 X3 X4 o ∧ ∀ k, k < n → o k = if k = p then x else f k) ∨ (G ≠ 0 ∧ X0 = 0 ∧ X1 = 0 ∧ X2 = none ∧ X3 = 0 ∧ X4 = 0)
theorem WthR.below {G r c : Int} {n p x : Nat} {f : Nat → Nat} {W W' : World} {X0 X1 : Int} {X2 : Option Addr} {X3 X4 : Nat} (h : WthR G r c n p x f W X0 X1 X2 X3 X4) (hb : Below W.heap.size W W') : WthR G r c n p x f W' X0 X1 X2 X3 X4 := by
  rcases h with ⟨h0, h1, h2, h3, o, h4, h5⟩ | h
  · exact Or.inl ⟨h0, h1, h2, h3, o, h4.below hb, h5⟩
  · exact Or.inr h
end Go.Proofs.Ytehgiegmdpaomaa
