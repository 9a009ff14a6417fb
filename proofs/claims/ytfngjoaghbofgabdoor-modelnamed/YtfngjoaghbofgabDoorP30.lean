
/- The document's AllFinite, Check, First, If, List of matrices and lists; the law's told and list. -/
import Derived.Test.YtfngjoaghbofgabDoorP28
import Derived.Test.YtfngjoaghbofgabDoorP19
import Derived.Test.YtfngjoaghbofgabDoorP24
import Derived.Test.YtfngjoaghbofgabDoorP29
namespace Go.Proofs.YtfngjoaghbofgabDoor
open Go.RowKit Go.IntWalk

set_option maxHeartbeats 1000000 in
theorem rall_some (zs : List Nat) (b off cap : Nat) (w : World) (hcell : ∀ i, i < zs.length → w.cell? ⟨b, off + i, none⟩ = some (.float .f64 (zs.getD i 0))) (hz : ∀ i, i < zs.length → zs.getD i 0 < 18446744073709551616) (hn : zs.length ≤ 140737488355328) :
    Calls Tryd.prog 16 #[.slice (some ⟨b, off, none⟩) zs.length cap] w fun r w' => r = .returned (.bool (finM zs)) ∧ w' = w := by
  have HC := hid hcell
  have HZ := hid hz
  obtain ⟨n, hnl⟩ : ∃ n, Hid (zs.length = n) := ⟨_, rfl⟩
  rw [hnl.out] at hn ⊢
  clear hcell hz
  go_enter Tryd.func16, Tryd.ntmps16
  go_wp2
  go_loopw [7] (fun i wr => ∃ k : Nat, k ≤ n ∧ i = .int .i64 k ∧ Hid (finM (zs.take k) = true) ∧ wr = w) (fun i _ => n - (intOf i).toNat)
  case atStart => exact ⟨0, Nat.zero_le _, rfl, rfl, rfl⟩
  case round =>
    obtain ⟨k, hkn, rfl, HA, rfl⟩ := hrel
    by_cases hlt : k < n
    · have hck := HC.out k (by rw [hnl.out]; exact hlt)
      have HF := hid (fun W => rfinite_any (zs.getD k 0) W (HZ.out k (by rw [hnl.out]; exact hlt)))
      have HTK : Hid (finM (zs.take (k + 1)) = (finM (zs.take k) && !(expOf (zs.getD k 0) == 2047))) := finM_take zs k (by rw [hnl.out]; exact hlt)
      obtain ⟨z, hzz⟩ : ∃ z, Hid (zs.getD k 0 = z) := ⟨_, rfl⟩
      rw [hzz.out] at hck HF HTK
      cases he : (expOf z == 2047) with
      | true =>
        rw [he] at HF HTK
        go_wp2_with fail
        refine (HF.out _).mono ?_
        rintro e w1 ⟨rfl, rfl⟩
        go_wp2_with fail
        go_ret
        exact ⟨ret_bool (finM_false zs (k + 1) (by rw [HTK.out]; simp)).symm, rfl⟩
      | false =>
        rw [he] at HF HTK
        go_wp2_with fail
        refine (HF.out _).mono ?_
        rintro e w1 ⟨rfl, rfl⟩
        go_wp2_with fail
        refine ⟨⟨k + 1, by omega, by go_num, by show finM _ = true; rw [HTK.out, HA.out]; rfl, trivial⟩, ?_⟩
        simp [intOf]; omega
    · go_wp2
      go_ret
      exact ⟨ret_bool (finM_all zs k (by rw [hnl.out]; omega) HA.out).symm, rfl⟩
set_option maxHeartbeats 1000000 in
theorem rall_nil (w : World) : Calls Tryd.prog 16 #[.slice none 0 0] w fun r w' => r = .returned (.bool true) ∧ w' = w := by
  go_enter Tryd.func16, Tryd.ntmps16
  go_wp2
  go_loopw [7] (fun i wr => i = .int .i64 0 ∧ wr = w) (fun _ _ => 0)
  case atStart => exact ⟨rfl, rfl⟩
  case round =>
    obtain ⟨rfl, rfl⟩ := hrel
    go_wp2
    go_ret
    exact ⟨rfl, rfl⟩
/-- The document's AllFinite of any list. -/
theorem rall_any (sa : Option Addr) (n cap : Nat) (xs : List Nat) (w : World) (h : FlM w sa n cap xs) (hn : n ≤ 17592186043904) :
    Calls Tryd.prog 16 #[.slice sa n cap] w fun r w' => r = .returned (.bool (finM xs)) ∧ w' = w := by
  obtain ⟨rfl, h2, ⟨rfl, h3, rfl⟩ | ⟨b, off, rfl, h4, _, _, h7⟩⟩ := h
  · have hx : xs = [] := List.length_eq_zero_iff.1 h3
    subst hx
    exact rall_nil w
  · exact rall_some xs b off cap w h7 (fun i hi => h2 _ (mem_getM xs i hi)) (by omega)
/-- The first error of a list. -/
def firstL : List Int → Int
  | [] => 0
  | x :: xs => if x = 0 then firstL xs else x
theorem firstL_take (xs : List Int) (k : Nat) (h : ∀ j, j < k → xs.getD j 0 = 0) : firstL xs = firstL (xs.drop k) := by
  induction k generalizing xs with
  | zero => rfl
  | succ k ih =>
    cases xs with
    | nil => rfl
    | cons x xs =>
      have h0 := h 0 (by omega)
      simp at h0
      rw [List.drop_succ_cons, firstL, if_pos h0]
      exact ih xs (fun j hj => by have := h (j + 1) (by omega); simpa using this)
end Go.Proofs.YtfngjoaghbofgabDoor

namespace Go.Proofs.YtfngjoaghbofgabDoor
open Go.RowKit Go.IntWalk

/-- What is wrong with a list. -/
def lstE (n : Nat) (xs : List Nat) : Int := if 12 < n then 1 else if finM xs = false then 4 else 0
set_option maxHeartbeats 1000000 in
theorem chkL_any (sa : Option Addr) (n cap : Nat) (xs : List Nat) (w : World) (h : FlM w sa n cap xs) (hn : n ≤ 17592186043904) :
    Calls Tryd.prog 56 #[.slice sa n cap] w fun e w' => e = .returned (.int .i64 (lstE n xs)) ∧ Below w.heap.size w w' := by
  have HF := hid (FinM_any sa n cap xs w h hn)
  obtain ⟨E, hE⟩ : ∃ E, Hid (lstE n xs = E) := ⟨_, rfl⟩
  rw [hE.out]
  clear h
  go_enter Tryd.func56, Tryd.ntmps56
  go_wp2_with fail
  refine (isSide_any n _).mono ?_
  rintro e w1 ⟨rfl, rfl⟩
  cases h1 : sideB n with
  | false =>
    obtain rfl : E = 1 := by
      rw [← hE.out]; unfold lstE
      rw [if_pos (by unfold sideB at h1; simp at h1; omega)]
    go_wp2_with fail
    go_ret
    exact ⟨rfl, Below.refl _ _⟩
  | true =>
    have HE2 : Hid (E = if finM xs = false then 4 else 0) := by
      show _ = _; rw [← hE.out]; unfold lstE
      rw [if_neg (by unfold sideB at h1; simp at h1; omega)]
    go_wp2_with fail
    refine HF.out.mono ?_
    rintro e w2 ⟨rfl, hb2⟩
    have HB2 := hid hb2
    clear hb2
    cases h4 : finM xs with
    | false =>
      obtain rfl : E = 4 := by rw [HE2.out, if_pos h4]
      go_wp2_with fail
      go_ret
      exact ⟨rfl, HB2.out⟩
    | true =>
      obtain rfl : E = 0 := by rw [HE2.out, if_neg (by simp [h4])]
      go_wp2_with fail
      go_ret
      exact ⟨rfl, HB2.out⟩
end Go.Proofs.YtfngjoaghbofgabDoor

namespace Go.Proofs.YtfngjoaghbofgabDoor
open Go.RowKit Go.IntWalk

/-- A variable that holds an int. -/
def IBox (i : Int) : Obj := .cells #[.int .i64 i] 3
theorem icell_of {w : World} {b : Nat} {i : Int} (h : w.heap[b]? = some (IBox i)) : w.cell? ⟨b, 0, none⟩ = some (.int .i64 i) := by
  unfold IBox at h
  simp [World.cell?, h]
theorem four_b (w : World) (A B C R : Obj) : ((((w.alloc A).alloc B).alloc C).alloc R).heap[w.heap.size]? = some A ∧ ((((w.alloc A).alloc B).alloc C).alloc R).heap[w.heap.size + 1]? = some B ∧ ((((w.alloc A).alloc B).alloc C).alloc R).heap[w.heap.size + 1 + 1]? = some C ∧ ((((w.alloc A).alloc B).alloc C).alloc R).heap[w.heap.size + 1 + 1 + 1]? = some R ∧ Below w.heap.size w ((((w.alloc A).alloc B).alloc C).alloc R) := by
  obtain ⟨h1, h2, h3, h4, h5⟩ := three_b w A B C
  have hb : Below (((w.alloc A).alloc B).alloc C).heap.size (((w.alloc A).alloc B).alloc C) ((((w.alloc A).alloc B).alloc C).alloc R) := (Below.refl _ _).alloc (Nat.le_refl _) R
  refine ⟨blkM h1 hb, blkM h2 hb, blkM h3 hb, ?_, h4.trans (hb.mono h4.size)⟩
  have := nblkM (((w.alloc A).alloc B).alloc C) R
  rw [h5] at this
  exact this
/-- What checkSpan tells. -/
def spanE (E r c i j a b : Int) : Int := if E ≠ 0 then E else if i < 0 ∨ j < 0 ∨ r - a < i ∨ c - b < j then 1 else 0
end Go.Proofs.YtfngjoaghbofgabDoor

namespace Go.Proofs.YtfngjoaghbofgabDoor
open Go.RowKit Go.IntWalk

theorem field2_run (a b c : Value) (w : World) : (Instr.field 34 (.agg #[a, b, c]) 2).run Tryd.prog w = .ok c w := by
  unfold Instr.field
  simp [go_sem]
  rfl
theorem span_zero {r c i j a b : Int} {n : Nat} {xs : List Nat} (h : spanE (chkM r c n xs) r c i j a b = 0) : chkM r c n xs = 0 ∧ ∃ R C p q : Nat, r = R ∧ c = C ∧ i = p ∧ j = q ∧ (p : Int) + a ≤ R ∧ (q : Int) + b ≤ C ∧ R ≤ 12 ∧ C ≤ 12 ∧ n = R * C ∧ finM xs = true := by
  unfold spanE at h
  by_cases hE : chkM r c n xs = 0
  · rw [if_neg (fun hc => hc hE)] at h
    by_cases hd : i < 0 ∨ j < 0 ∨ r - a < i ∨ c - b < j
    · rw [if_pos hd] at h; cases h
    · obtain ⟨R, C, rfl, rfl, h1, h2, h3, h4⟩ := chk_some hE
      obtain ⟨p, rfl⟩ := Int.eq_ofNat_of_zero_le (show 0 ≤ i by omega)
      obtain ⟨q, rfl⟩ := Int.eq_ofNat_of_zero_le (show 0 ≤ j by omega)
      exact ⟨hE, R, C, p, q, rfl, rfl, rfl, rfl, by omega, by omega, h1, h2, h3, h4⟩
  · rw [if_pos hE] at h
    exact absurd h hE
/-- A list handed back: numbers told by a function, or nothing. -/
def LstR (E : Int) (m : Nat) (g : Nat → Nat) (W : World) (s : Option Addr) (k cap : Nat) : Prop := (E = 0 ∧ k = m ∧ FnM W s k cap g) ∨ (E ≠ 0 ∧ s = none ∧ k = 0 ∧ cap = 0)
theorem LstR.below {E : Int} {m : Nat} {g : Nat → Nat} {W W' : World} {s : Option Addr} {k cap : Nat} (h : LstR E m g W s k cap) (hb : Below W.heap.size W W') : LstR E m g W' s k cap := by
  rcases h with ⟨h0, h1, h2⟩ | h
  · exact Or.inl ⟨h0, h1, h2.below hb⟩
  · exact Or.inr h
end Go.Proofs.YtfngjoaghbofgabDoor

namespace Go.Proofs.YtfngjoaghbofgabDoor
open Go.RowKit Go.IntWalk

/-- What With tells. -/
def withE (F : Int) (x : Nat) : Int := if F ≠ 0 then F else if finB x = true then 0 else 4
/-- What With hands back. -/
def WthR (G : Int) (r c : Int) (n p x : Nat) (f : Nat → Nat) (W : World) (X0 X1 : Int) (X2 : Option Addr) (X3 X4 : Nat) : Prop :=
  (G = 0 ∧ X0 = r ∧ X1 = c ∧ X3 = n ∧ ∃ o : Nat → Nat, FnM W X2 X3 X4 o ∧ ∀ k, k < n → o k = if k = p then x else f k) ∨ (G ≠ 0 ∧ X0 = 0 ∧ X1 = 0 ∧ X2 = none ∧ X3 = 0 ∧ X4 = 0)
theorem WthR.below {G r c : Int} {n p x : Nat} {f : Nat → Nat} {W W' : World} {X0 X1 : Int} {X2 : Option Addr} {X3 X4 : Nat} (h : WthR G r c n p x f W X0 X1 X2 X3 X4) (hb : Below W.heap.size W W') : WthR G r c n p x f W' X0 X1 X2 X3 X4 := by
  rcases h with ⟨h0, h1, h2, h3, o, h4, h5⟩ | h
  · exact Or.inl ⟨h0, h1, h2, h3, o, h4.below hb, h5⟩
  · exact Or.inr h
end Go.Proofs.YtfngjoaghbofgabDoor
