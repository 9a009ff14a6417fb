
/- The document's AllFinite, Check, First, If, List of matrices and lists; the law's told and list. -/
import Derived.Test.YtcaelnpddipmhaaP25
import Derived.Test.YtcaelnpddipmhaaP19
import Derived.Test.YtcaelnpddipmhaaP21
import Derived.Test.YtcaelnpddipmhaaP26
namespace Go.Proofs.Ytcaelnpddipmhaa
open Go.RowKit Go.IntWalk

set_option maxHeartbeats 1000000 in
theorem rall_some (zs : List Nat) (b off cap : Nat) (w : World) (hcell : ∀ i, i < zs.length → w.cell? ⟨b, off + i, none⟩ = some (.float .f64 (zs.getD i 0))) (hz : ∀ i, i < zs.length → zs.getD i 0 < 18446744073709551616) (hn : zs.length ≤ 140737488355328) :
    Calls Try.prog 53 #[.slice (some ⟨b, off, none⟩) zs.length cap] w fun r w' => r = .returned (.bool (finM zs)) ∧ w' = w := by
  have HC := hid hcell
  have HZ := hid hz
  obtain ⟨n, hnl⟩ : ∃ n, Hid (zs.length = n) := ⟨_, rfl⟩
  rw [hnl.out] at hn ⊢
  clear hcell hz
  go_enter Try.func53, Try.ntmps53
  go_wp2
  go_loopw [7] (fun i wr => ∃ k : Nat, k ≤ n ∧ i = .int .i64 k ∧ Hid (finM (zs.take k) = true) ∧ wr = w) (fun i _ => n - (intOf i).toNat)
  case atStart => exact ⟨0, Nat.zero_le _, rfl, rfl, rfl⟩
  case round =>
    obtain ⟨k, hkn, rfl, HA, rfl⟩ := hrel
    by_cases hlt : k < n
    · have hck := HC.out k (by rw [hnl.out]; exact hlt)
      have HF := hid (fun W => rfinite_any (zs.getD k 0) W (HZ.out k (by rw [hnl.out]; exact hlt)))
      have HTK : Hid (finM (zs.take (k + 1)) = (finM (zs.take k) && !(expOf (zs.getD k 0) == 2047))) := finM_take zs k (by rw [hnl.out]; exact hlt)
      obtain ⟨z, hzz⟩ : ∃ z, Hid (zs.getD k 0 = z) := ⟨_, rfl⟩
      rw [hzz.out] at hck HF HTK
      cases he : (expOf z == 2047) with
      | true =>
        rw [he] at HF HTK
        go_wp2_with fail
        refine (HF.out _).mono ?_
        rintro e w1 ⟨rfl, rfl⟩
        go_wp2_with fail
        go_ret
        exact ⟨ret_bool (finM_false zs (k + 1) (by rw [HTK.out]; simp)).symm, rfl⟩
      | false =>
        rw [he] at HF HTK
        go_wp2_with fail
        refine (HF.out _).mono ?_
        rintro e w1 ⟨rfl, rfl⟩
        go_wp2_with fail
        refine ⟨⟨k + 1, by omega, by go_num, by show finM _ = true; rw [HTK.out, HA.out]; rfl, trivial⟩, ?_⟩
        simp [intOf]; omega
    · go_wp2
      go_ret
      exact ⟨ret_bool (finM_all zs k (by rw [hnl.out]; omega) HA.out).symm, rfl⟩
set_option maxHeartbeats 1000000 in
theorem rall_nil (w : World) : Calls Try.prog 53 #[.slice none 0 0] w fun r w' => r = .returned (.bool true) ∧ w' = w := by
  go_enter Try.func53, Try.ntmps53
  go_wp2
  go_loopw [7] (fun i wr => i = .int .i64 0 ∧ wr = w) (fun _ _ => 0)
  case atStart => exact ⟨rfl, rfl⟩
  case round =>
    obtain ⟨rfl, rfl⟩ := hrel
    go_wp2
    go_ret
    exact ⟨rfl, rfl⟩
/-- The document's AllFinite of any list. -/
theorem rall_any (sa : Option Addr) (n cap : Nat) (xs : List Nat) (w : World) (h : FlM w sa n cap xs) (hn : n ≤ 17592186043904) :
    Calls Try.prog 53 #[.slice sa n cap] w fun r w' => r = .returned (.bool (finM xs)) ∧ w' = w := by
  obtain ⟨rfl, h2, ⟨rfl, h3, rfl⟩ | ⟨b, off, rfl, h4, _, _, h7⟩⟩ := h
  · have hx : xs = [] := List.length_eq_zero_iff.1 h3
    subst hx
    exact rall_nil w
  · exact rall_some xs b off cap w h7 (fun i hi => h2 _ (mem_getM xs i hi)) (by omega)
/-- The first error of a list. -/
def firstL : List Int → Int
  | [] => 0
  | x :: xs => if x = 0 then firstL xs else x
theorem If_any (v : Bool) (E : Int) (w : World) : Calls Try.prog 59 #[.bool v, .int .i64 E] w fun e w' => e = .returned (.int .i64 (if v = true then E else 0)) ∧ w' = w := by
  cases v
  · go_enter Try.func59, Try.ntmps59
    go_wp2_with fail
    go_ret
    exact ⟨rfl, rfl⟩
  · go_enter Try.func59, Try.ntmps59
    go_wp2_with fail
    go_ret
    exact ⟨rfl, rfl⟩
theorem firstL_take (xs : List Int) (k : Nat) (h : ∀ j, j < k → xs.getD j 0 = 0) : firstL xs = firstL (xs.drop k) := by
  induction k generalizing xs with
  | zero => rfl
  | succ k ih =>
    cases xs with
    | nil => rfl
    | cons x xs =>
      have h0 := h 0 (by omega)
      simp at h0
      rw [List.drop_succ_cons, firstL, if_pos h0]
      exact ih xs (fun j hj => by have := h (j + 1) (by omega); simpa using this)
end Go.Proofs.Ytcaelnpddipmhaa

namespace Go.Proofs.Ytcaelnpddipmhaa
open Go.RowKit Go.IntWalk

/-- What is wrong with a list. -/
def lstE (n : Nat) (xs : List Nat) : Int := if 12 < n then 1 else if finM xs = false then 4 else 0
set_option maxHeartbeats 400000 in
theorem rRaw_any (r c : Nat) (hr : r ≤ 100) (hc : c ≤ 100) (w : World) : Calls Try.prog 31 #[.int .i64 r, .int .i64 c] w fun e w' => e = .returned (MV r c (some ⟨w.heap.size + 1, 0, none⟩) (r * c) (r * c)) ∧ w'.rowIs (w.heap.size + 1) 23 (r * c) (fun _ => .float .f64 0) ∧ Below w.heap.size w w' := by
  have hp : r * c ≤ 10000 := Nat.mul_le_mul hr hc
  have e1 : (r : Int) * (c : Int) = ((r * c : Nat) : Int) := by simp
  obtain ⟨N, hN⟩ : ∃ p, Hid (r * c = p) := ⟨_, rfl⟩
  rw [hN.out] at e1 hp ⊢
  have hmk := run_make_row' (P := Try.prog) 32 23 (.float .f64 0) 8 Try.underlying32 info_fM rfl .i64 .i64 N (by omega) (by omega)
  have e3 := wrapM N (by omega)
  unfold MV
  clear hr hc
  go_enter Try.func31, Try.ntmps31
  go_wp2_with fail
  refine bodyPost_ret (v := .agg #[.int .i64 r, .int .i64 c, .slice (some ⟨w.heap.size + 1, 0, none⟩) N N]) (by simp [results, Try.results31, go_sem]) rfl ⟨rfl, ?_, ((Below.refl _ _).alloc (Nat.le_refl _) _).alloc (by simp) _⟩
  have := World.rowIs_made (w.alloc (MBox r c (some ⟨w.heap.size + 1, 0, none⟩) N N)) (.float .f64 0) N 23
  rw [World.size_alloc] at this
  exact this
end Go.Proofs.Ytcaelnpddipmhaa

namespace Go.Proofs.Ytcaelnpddipmhaa
open Go.RowKit Go.IntWalk

/-- A variable that holds an int. -/
def IBox (i : Int) : Obj := .cells #[.int .i64 i] 3
theorem icell_of {w : World} {b : Nat} {i : Int} (h : w.heap[b]? = some (IBox i)) : w.cell? ⟨b, 0, none⟩ = some (.int .i64 i) := by
  unfold IBox at h
  simp [World.cell?, h]
theorem four_b (w : World) (A B C R : Obj) : ((((w.alloc A).alloc B).alloc C).alloc R).heap[w.heap.size]? = some A ∧ ((((w.alloc A).alloc B).alloc C).alloc R).heap[w.heap.size + 1]? = some B ∧ ((((w.alloc A).alloc B).alloc C).alloc R).heap[w.heap.size + 1 + 1]? = some C ∧ ((((w.alloc A).alloc B).alloc C).alloc R).heap[w.heap.size + 1 + 1 + 1]? = some R ∧ Below w.heap.size w ((((w.alloc A).alloc B).alloc C).alloc R) := by
  obtain ⟨h1, h2, h3, h4, h5⟩ := three_b w A B C
  have hb : Below (((w.alloc A).alloc B).alloc C).heap.size (((w.alloc A).alloc B).alloc C) ((((w.alloc A).alloc B).alloc C).alloc R) := (Below.refl _ _).alloc (Nat.le_refl _) R
  refine ⟨blkM h1 hb, blkM h2 hb, blkM h3 hb, ?_, h4.trans (hb.mono h4.size)⟩
  have := nblkM (((w.alloc A).alloc B).alloc C) R
  rw [h5] at this
  exact this
/-- What checkSpan tells. -/
def spanE (E r c i j a b : Int) : Int := if E ≠ 0 then E else if i < 0 ∨ j < 0 ∨ r - a < i ∨ c - b < j then 1 else 0
end Go.Proofs.Ytcaelnpddipmhaa

namespace Go.Proofs.Ytcaelnpddipmhaa
open Go.RowKit Go.IntWalk

theorem field2_run (a b c : Value) (w : World) : (Instr.field 34 (.agg #[a, b, c]) 2).run Try.prog w = .ok c w := by
  unfold Instr.field
  simp [go_sem]
  rfl
theorem span_zero {r c i j a b : Int} {n : Nat} {xs : List Nat} (h : spanE (chkM r c n xs) r c i j a b = 0) : chkM r c n xs = 0 ∧ ∃ R C p q : Nat, r = R ∧ c = C ∧ i = p ∧ j = q ∧ (p : Int) + a ≤ R ∧ (q : Int) + b ≤ C ∧ R ≤ 12 ∧ C ≤ 12 ∧ n = R * C ∧ finM xs = true := by
  unfold spanE at h
  by_cases hE : chkM r c n xs = 0
  · rw [if_neg (fun hc => hc hE)] at h
    by_cases hd : i < 0 ∨ j < 0 ∨ r - a < i ∨ c - b < j
    · rw [if_pos hd] at h; cases h
    · obtain ⟨R, C, rfl, rfl, h1, h2, h3, h4⟩ := chk_some hE
      obtain ⟨p, rfl⟩ := Int.eq_ofNat_of_zero_le (show 0 ≤ i by omega)
      obtain ⟨q, rfl⟩ := Int.eq_ofNat_of_zero_le (show 0 ≤ j by omega)
      exact ⟨hE, R, C, p, q, rfl, rfl, rfl, rfl, by omega, by omega, h1, h2, h3, h4⟩
  · rw [if_pos hE] at h
    exact absurd h hE
/-- A list handed back: numbers told by a function, or nothing. -/
def LstR (E : Int) (m : Nat) (g : Nat → Nat) (W : World) (s : Option Addr) (k cap : Nat) : Prop := (E = 0 ∧ k = m ∧ FnM W s k cap g) ∨ (E ≠ 0 ∧ s = none ∧ k = 0 ∧ cap = 0)
theorem LstR.below {E : Int} {m : Nat} {g : Nat → Nat} {W W' : World} {s : Option Addr} {k cap : Nat} (h : LstR E m g W s k cap) (hb : Below W.heap.size W W') : LstR E m g W' s k cap := by
  rcases h with ⟨h0, h1, h2⟩ | h
  · exact Or.inl ⟨h0, h1, h2.below hb⟩
  · exact Or.inr h
end Go.Proofs.Ytcaelnpddipmhaa

namespace Go.Proofs.Ytcaelnpddipmhaa
open Go.RowKit Go.IntWalk

/-- What With tells. -/
def withE (F : Int) (x : Nat) : Int := if F ≠ 0 then F else if finB x = true then 0 else 4
/-- What With hands back. -/
def WthR (G : Int) (r c : Int) (n p x : Nat) (f : Nat → Nat) (W : World) (X0 X1 : Int) (X2 : Option Addr) (X3 X4 : Nat) : Prop :=
  (G = 0 ∧ X0 = r ∧ X1 = c ∧ X3 = n ∧ ∃ o : Nat → Nat, FnM W X2 X3 X4 o ∧ ∀ k, k < n → o k = if k = p then x else f k) ∨ (G ≠ 0 ∧ X0 = 0 ∧ X1 = 0 ∧ X2 = none ∧ X3 = 0 ∧ X4 = 0)
theorem WthR.below {G r c : Int} {n p x : Nat} {f : Nat → Nat} {W W' : World} {X0 X1 : Int} {X2 : Option Addr} {X3 X4 : Nat} (h : WthR G r c n p x f W X0 X1 X2 X3 X4) (hb : Below W.heap.size W W') : WthR G r c n p x f W' X0 X1 X2 X3 X4 := by
  rcases h with ⟨h0, h1, h2, h3, o, h4, h5⟩ | h
  · exact Or.inl ⟨h0, h1, h2, h3, o, h4.below hb, h5⟩
  · exact Or.inr h
end Go.Proofs.Ytcaelnpddipmhaa

namespace Go.Proofs.Ytcaelnpddipmhaa
open Go.RowKit Go.IntWalk

/-- Numbers in memory of one's own. -/
def OwM (W : World) (B : Nat) (ta : Option Addr) (n cap : Nat) (xs : List Nat) : Prop := FlM W ta n cap xs ∧ (n = 0 ∨ ∃ g, ta = some ⟨g, 0, none⟩ ∧ B ≤ g ∧ ∀ k, W.frozen? ⟨g, k, none⟩ = false)
theorem OwM.mono {W : World} {B B' : Nat} {ta : Option Addr} {n cap : Nat} {xs : List Nat} (h : OwM W B ta n cap xs) (hb : B' ≤ B) : OwM W B' ta n cap xs := by
  rcases h.2 with h2 | ⟨g, h1, h2, h3⟩
  · exact ⟨h.1, Or.inl h2⟩
  · exact ⟨h.1, Or.inr ⟨g, h1, Nat.le_trans hb h2, h3⟩⟩
theorem fl_lt {W : World} {g n cap : Nat} {xs : List Nat} (h : FlM W (some ⟨g, 0, none⟩) n cap xs) : g < W.heap.size := by
  rcases h.2.2 with ⟨h1, _⟩ | ⟨b, off, h1, h2, _⟩
  · cases h1
  · simp only [Option.some.injEq, Addr.mk.injEq] at h1
    rw [h1.1]; exact h2
theorem OwM.below {W W' : World} {B : Nat} {ta : Option Addr} {n cap : Nat} {xs : List Nat} (h : OwM W B ta n cap xs) (hb : Below W.heap.size W W') : OwM W' B ta n cap xs := by
  refine ⟨h.1.below hb, ?_⟩
  rcases h.2 with h2 | ⟨g, h1, h2, h3⟩
  · exact Or.inl h2
  · subst h1
    exact Or.inr ⟨g, rfl, h2, fun k => (World.frozen?_of_block (hb.block g (fl_lt h.1))).trans (h3 k)⟩
theorem fl_cell {W : World} {g n cap : Nat} {xs : List Nat} (h : FlM W (some ⟨g, 0, none⟩) n cap xs) (hn : n ≠ 0) : ∃ x, W.cell? ⟨g, 0, none⟩ = some (.float .f64 x) := by
  rcases h.2.2 with ⟨h1, _⟩ | ⟨b, off, h1, _, _, _, h2⟩
  · cases h1
  · simp only [Option.some.injEq, Addr.mk.injEq, and_true] at h1
    obtain ⟨rfl, rfl⟩ := h1
    exact ⟨_, h2 0 (by omega)⟩
theorem fl_ne {W : World} {g n cap b : Nat} {xs : List Nat} {r0 c0 : Int} {s0 : Option Addr} {n0 k0 : Nat} (h : FlM W (some ⟨g, 0, none⟩) n cap xs) (hn : n ≠ 0) (hb : W.heap[b]? = some (MBox r0 c0 s0 n0 k0)) : g ≠ b := fun hc => by
  subst hc
  obtain ⟨x, hx⟩ := fl_cell h hn
  rw [(mcells_of hb).1] at hx
  cases hx
theorem OwM.sto {W : World} {B : Nat} {ta : Option Addr} {n cap : Nat} {xs : List Nat} (h : OwM W B ta n cap xs) {b : Nat} {r c r0 c0 : Int} {s s0 : Option Addr} {m k n0 k0 : Nat} (hb : W.heap[b]? = some (MBox r0 c0 s0 n0 k0)) : OwM (StoM W b r c s m k) B ta n cap xs := by
  refine ⟨sto_fl h.1 hb, ?_⟩
  by_cases hn : n = 0
  · exact Or.inl hn
  rcases h.2 with h2 | ⟨g, h1, h2, h3⟩
  · exact absurd h2 hn
  · subst h1
    exact Or.inr ⟨g, rfl, h2, fun k => (World.frozen?_of_block (StoM.keep (fl_ne h.1 hn hb))).trans (h3 k)⟩
set_option maxRecDepth 4000 in
set_option maxHeartbeats 1000000 in
/-- Put: the number's cell is written, nothing else. -/
theorem Put_any (r : Int) (g c n cap i j x y : Nat) (w : World) (hcell : w.cell? ⟨g, i * c + j, none⟩ = some (.float .f64 y)) (hfz : w.frozen? ⟨g, i * c + j, none⟩ = false) (hg : g < w.heap.size) (hi : i ≤ 100) (hc : c ≤ 100) (hj : j ≤ 100) (hk : i * c + j < n) : Calls Try.prog 34 #[.agg #[.int .i64 r, .int .i64 c, .slice (some ⟨g, 0, none⟩) n cap], .int .i64 i, .int .i64 j, .float .f64 x] w fun e w' => e = .returned (.tuple #[]) ∧ w' = (w.alloc (MBox r c (some ⟨g, 0, none⟩) n cap)).setCell ⟨g, i * c + j, none⟩ (.float .f64 x) := by
  have hst := fstoreM
  have hal : Below w.heap.size w (w.alloc (MBox r c (some ⟨g, 0, none⟩) n cap)) := (Below.refl _ _).alloc (Nat.le_refl _) _
  have hp : i * c ≤ 10000 := Nat.mul_le_mul hi hc
  have e1 : (i : Int) * (c : Int) = ((i * c : Nat) : Int) := by simp
  have hc2 : (w.alloc (MBox r c (some ⟨g, 0, none⟩) n cap)).cell? ⟨g, i * c + j, none⟩ = some (.float .f64 y) := (World.cell?_of_block (hal.block _ hg)).trans hcell
  have hf2 : (w.alloc (MBox r c (some ⟨g, 0, none⟩) n cap)).frozen? ⟨g, i * c + j, none⟩ = false := (World.frozen?_of_block (hal.block _ hg)).trans hfz
  obtain ⟨x0, x1, x2⟩ := mcells_of (w := w.alloc (MBox r c (some ⟨g, 0, none⟩) n cap)) (b := w.heap.size) (nblkM _ _)
  obtain ⟨V, hV⟩ : ∃ V, Hid (w.alloc (MBox r c (some ⟨g, 0, none⟩) n cap) = V) := ⟨_, rfl⟩
  rw [hV.out] at hc2 hf2 x0 x1 x2 ⊢
  have hV' := hV.out
  unfold MBox at hV'
  obtain ⟨P, hP⟩ : ∃ t, Hid (i * c = t) := ⟨_, rfl⟩
  rw [hP.out] at e1 hp hk hc2 hf2 ⊢
  have e2 : (P : Int) + (j : Int) = ((P + j : Nat) : Int) := by simp
  obtain ⟨k, hk'⟩ : ∃ t, Hid (P + j = t) := ⟨_, rfl⟩
  have e3 := wrapM P (by omega)
  have e4 := wrapM k (by rw [← hk'.out]; omega)
  rw [hk'.out] at e2 hk hc2 hf2 ⊢
  have k0 : (0 : Int) ≤ (k : Int) := by omega
  have k1 : (k : Int) < (n : Int) := by omega
  clear hcell hfz hg hi hc hj hp hal
  go_enter Try.func34, Try.ntmps34
  go_wp2_with fail
  exact bodyPost_end (v := .tuple #[]) (by simp [results, Try.results34, go_sem]) rfl ⟨rfl, rfl⟩
end Go.Proofs.Ytcaelnpddipmhaa

namespace Go.Proofs.Ytcaelnpddipmhaa
open Go.RowKit Go.IntWalk

theorem ownsq_kept {w w' : World} {base : Nat} {v : Value} {xs : List Nat} (h : Owns w base v xs) (hb : Below w.heap.size w w') : Owns w' base v xs := by
  obtain ⟨h1, h2 | ⟨g, cap, cur, e1, e2, e3, e4⟩⟩ := h
  · exact ⟨h1, .inl h2⟩
  · exact ⟨h1, .inr ⟨g, cap, cur, e1, e2, (hb.block g (Array.getElem?_eq_some_iff.1 e3).1).trans e3, e4⟩⟩
end Go.Proofs.Ytcaelnpddipmhaa

namespace Go.Proofs.Ytcaelnpddipmhaa
open Go.RowKit Go.IntWalk

end Go.Proofs.Ytcaelnpddipmhaa

namespace Go.Proofs.Ytcaelnpddipmhaa
open Go.RowKit Go.IntWalk

/-- Four variables as they were laid. -/
def Fr5 (w W : World) (p0 p1 rb mb : Nat) (A B R M : Obj) : Prop := Below w.heap.size w W ∧ W.heap[p0]? = some A ∧ W.heap[p1]? = some B ∧ W.heap[rb]? = some R ∧ W.heap[mb]? = some M
theorem Fr5.drew {w W : World} {p0 p1 rb mb : Nat} {A B R M : Obj} (h : Fr5 w W p0 p1 rb mb A B R M) : Fr5 w W.drew p0 p1 rb mb A B R M := ⟨h.1.drew, h.2⟩
theorem Fr5.call {w W W' : World} {p0 p1 rb mb : Nat} {A B R M : Obj} (h : Fr5 w W p0 p1 rb mb A B R M) (hb : Below W.heap.size W W') : Fr5 w W' p0 p1 rb mb A B R M := ⟨h.1.trans (hb.mono h.1.size), blkM h.2.1 hb, blkM h.2.2.1 hb, blkM h.2.2.2.1 hb, blkM h.2.2.2.2 hb⟩
theorem Fr5.set {w W : World} {p0 p1 rb mb g k : Nat} {A B R M : Obj} (h : Fr5 w W p0 p1 rb mb A B R M) (h0 : p0 ≠ g) (h1 : p1 ≠ g) (h2 : rb ≠ g) (h3 : mb ≠ g) (hg : w.heap.size ≤ g) (x : Value) : Fr5 w (W.setCell ⟨g, k, none⟩ x) p0 p1 rb mb A B R M := ⟨h.1.setCell (p := ⟨g, k, none⟩) hg _, (set_keepM h0 x).trans h.2.1, (set_keepM h1 x).trans h.2.2.1, (set_keepM h2 x).trans h.2.2.2.1, (set_keepM h3 x).trans h.2.2.2.2⟩
end Go.Proofs.Ytcaelnpddipmhaa

namespace Go.Proofs.Ytcaelnpddipmhaa
open Go.RowKit Go.IntWalk

end Go.Proofs.Ytcaelnpddipmhaa

namespace Go.Proofs.Ytcaelnpddipmhaa
open Go.RowKit Go.IntWalk

theorem row_fnM {W : World} {g N : Nat} {o : Nat → Nat} (h : W.rowIs g 23 N (fun k => .float .f64 (o k))) (hlt : ∀ k, k < N → o k < 18446744073709551616) (hmax : N ≤ 9223372036854775807) : FnM W (some ⟨g, 0, none⟩) N N o :=
  Or.inr ⟨g, 0, rfl, h.lt, Nat.le_refl _, hmax, fun k hk => ⟨by rw [Nat.zero_add]; exact h.cell hk, hlt k hk⟩⟩
end Go.Proofs.Ytcaelnpddipmhaa

namespace Go.Proofs.Ytcaelnpddipmhaa
open Go.RowKit Go.IntWalk

/-- A list that isn't there beside an error. -/
def NonL (E : Int) : Value := .tuple #[.slice none 0 0, .int .i64 E]
/-- What MulVec hands back where all goes together: the numbers, or none beside ErrOver. -/
def AnsL (N g : Nat) (o : Nat → Nat) : Value := .tuple #[if finF N o = true then .slice (some ⟨g, 0, none⟩) N N else .slice none 0 0, .int .i64 (if finF N o = true then 0 else 5)]
end Go.Proofs.Ytcaelnpddipmhaa

namespace Go.Proofs.Ytcaelnpddipmhaa
open Go.RowKit Go.IntWalk

set_option maxRecDepth 4000 in
set_option maxHeartbeats 1000000 in
theorem Over_any (r c : Int) (n : Nat) (sa : Option Addr) (cap : Nat) (f : Nat → Nat) (w : World) (h : FnM w sa n cap f) (hn : n ≤ 17592186043904) : Calls Try.prog 35 #[MV r c sa n cap] w fun e w' => e = .returned (.tuple #[if finF n f = true then MV r c sa n cap else MV 0 0 none 0 0, .int .i64 (if finF n f = true then 0 else 5)]) ∧ (∀ sb m k (g : Nat → Nat), FnM w sb m k g → FnM w' sb m k g) ∧ Below w.heap.size w w' := by
  obtain ⟨t1, t2, t3, t4⟩ := two_b w (MBox r c sa n cap) (MBox 0 0 none 0 0)
  have HFI := hid (rall_any sa n cap _ _ ((h.below t3).fl) hn)
  obtain ⟨V, hV⟩ : ∃ V, Hid ((w.alloc (MBox r c sa n cap)).alloc (MBox 0 0 none 0 0) = V) := ⟨_, rfl⟩
  rw [hV.out] at HFI t1 t2 t3 t4
  have HR := hid t2
  have HB := hid t3
  have HS := hid t4
  have hV' := hV.out
  obtain ⟨z0, z1, z2⟩ := mcells_of t1
  obtain ⟨r0, r1, r2⟩ := mcells_of t2
  have fz := frzM t2
  unfold MBox at hV'
  obtain ⟨F, hF⟩ : ∃ F, Hid (finF n f = F) := ⟨_, rfl⟩
  unfold finF at hF
  rw [hF.out] at HFI
  have e1 : finF n f = F := hF.out
  rw [e1]
  clear t1 t2 t3 t4 h hn e1
  cases F with
  | true =>
    rw [if_pos rfl, if_pos rfl]
    unfold MV
    go_enter Try.func35, Try.ntmps35
    go_wp2_with fail
    refine HFI.out.mono ?_
    rintro e w1 ⟨rfl, rfl⟩
    go_wp2_with fail
    refine bodyPost_ret (v := .tuple #[MV r c sa n cap, .int .i64 0]) (by simp [results, Try.results35, go_sem, r0, r1, r2, MV]) rfl ⟨rfl, fun sb m k g hg => ?_, StoM.below HB.out (by omega)⟩
    exact StoM.fn (hg.below HB.out) HR.out
  | false =>
    rw [if_neg (by decide), if_neg (by decide)]
    unfold MV
    go_enter Try.func35, Try.ntmps35
    go_wp2_with fail
    refine HFI.out.mono ?_
    rintro e w1 ⟨rfl, rfl⟩
    go_wp2_with fail
    refine bodyPost_ret (v := .tuple #[MV 0 0 none 0 0, .int .i64 5]) (by simp [results, Try.results35, go_sem, r0, r1, r2, MV]) rfl ⟨rfl, fun sb m k g hg => ?_, StoM.below HB.out (by omega)⟩
    exact StoM.fn (hg.below HB.out) HR.out
end Go.Proofs.Ytcaelnpddipmhaa

namespace Go.Proofs.Ytcaelnpddipmhaa
open Go.RowKit Go.IntWalk

end Go.Proofs.Ytcaelnpddipmhaa

namespace Go.Proofs.Ytcaelnpddipmhaa
open Go.RowKit Go.IntWalk

theorem first_two2 (a b : Int) : firstL [a, b] = first2 a b := by
  unfold first2
  by_cases h : a = 0
  · rw [if_pos h]
    show (if a = 0 then firstL [b] else a) = b
    rw [if_pos h]
    show (if b = 0 then firstL [] else b) = b
    by_cases hb : b = 0
    · rw [if_pos hb, hb]; rfl
    · rw [if_neg hb]
  · rw [if_neg h]
    show (if a = 0 then firstL [b] else a) = a
    rw [if_neg h]
theorem first2_zero {a b : Int} (h : first2 a b = 0) : a = 0 ∧ b = 0 := by
  unfold first2 at h
  by_cases c : a = 0
  · rw [if_pos c] at h; exact ⟨c, h⟩
  · rw [if_neg c] at h; exact absurd h c
/-- The numbers of a product. -/
def prdV (xs ys : List Nat) (c c2 : Nat) (i j : Nat) : Nat := dotM (fun k => xs.getD (i * c + k) 0) (fun k => ys.getD (k * c2 + j) 0) c
/-- What Mul tells of any two. -/
def mulT (rx cx : Int) (n : Nat) (xs : List Nat) (ry cy : Int) (m : Nat) (ys : List Nat) : Int := if first2 (chkM rx cx n xs) (chkM ry cy m ys) = 0 then mulE rx.toNat cx.toNat ry.toNat cy.toNat (prdV xs ys cx.toNat cy.toNat) else first2 (chkM rx cx n xs) (chkM ry cy m ys)
end Go.Proofs.Ytcaelnpddipmhaa
