
/- The document's Place. -/
import Derived.Test.YtfngjoaghbofgabDoorP42
namespace Go.Proofs.YtfngjoaghbofgabDoor
open Go.RowKit Go.IntWalk

theorem pl_wraps {S z p x : Int} (hS : 0 ≤ S) (hp : 0 ≤ p) (hz : 1 ≤ z ∧ z ≤ 3) (ht : S + p * z + z ≤ 12) (hx : 0 ≤ x ∧ x < z) : wrap64 (p * z) = p * z ∧ wrap64 (S + p * z) = S + p * z ∧ wrap64 (S + p * z + x) = S + p * z + x := by
  have h0 : 0 ≤ p * z := Int.mul_nonneg hp (by omega)
  exact ⟨wrap64_in _ (by omega), wrap64_in _ (by omega), wrap64_in _ (by omega)⟩
end Go.Proofs.YtfngjoaghbofgabDoor

namespace Go.Proofs.YtfngjoaghbofgabDoor
open Go.RowKit Go.IntWalk

/-- A number below 12 as a text. -/
def sI : Nat → ByteArray
  | 0 => ⟨#[48]⟩
  | 1 => ⟨#[49]⟩
  | 2 => ⟨#[50]⟩
  | 3 => ⟨#[51]⟩
  | 4 => ⟨#[52]⟩
  | 5 => ⟨#[53]⟩
  | 6 => ⟨#[54]⟩
  | 7 => ⟨#[55]⟩
  | 8 => ⟨#[56]⟩
  | 9 => ⟨#[57]⟩
  | 10 => ⟨#[49, 48]⟩
  | _ => ⟨#[49, 49]⟩
theorem sI_size (i : Nat) : (sI i).size ≤ 2 := by
  unfold sI
  split <;> decide
set_option maxRecDepth 20000 in
theorem small_any (i : Nat) (hi : i < 12) (w : World) : Calls Tryd.prog 71 #[.int .i64 (i : Int)] w fun r w' => r = .returned (.string (sI i)) ∧ w' = w := by
  have key : ∀ k : Fin 12, Calls Tryd.prog 71 #[.int .i64 (k.val : Int)] w fun r w' => r = .returned (.string (sI k.val)) ∧ w' = w := fun k => by
    match k with
    | ⟨0, _⟩ | ⟨1, _⟩ | ⟨2, _⟩ | ⟨3, _⟩ | ⟨4, _⟩ | ⟨5, _⟩ | ⟨6, _⟩ | ⟨7, _⟩ | ⟨8, _⟩ | ⟨9, _⟩ | ⟨10, _⟩ | ⟨11, _⟩ =>
      go_enter Tryd.func71, Tryd.ntmps71
      go_wp2
      go_ret
      exact ⟨rfl, rfl⟩
  exact key ⟨i, hi⟩
theorem fmt_any (i : Nat) (hi : i < 12) (w : World) : Calls Tryd.prog 59 #[.int .i64 (i : Int), .int .i64 10] w fun r w' => r = .returned (.string (sI i)) ∧ w' = w := by
  have HS := hid (fun W => small_any i hi W)
  have h0 : (0 : Int) ≤ (i : Int) := by omega
  have h1 : (i : Int) < 100 := by omega
  go_enter Tryd.func59, Tryd.ntmps59
  go_wp2_with fail
  refine (HS.out _).mono ?_
  rintro e w1 ⟨rfl, rfl⟩
  go_wp2_with fail
  go_ret
  exact ⟨rfl, rfl⟩
theorem itoi_any (i : Nat) (hi : i < 12) (w : World) : Calls Tryd.prog 39 #[.int .i64 (i : Int)] w fun r w' => r = .returned (.string (sI i)) ∧ w' = w := by
  have HS := hid (fun W => fmt_any i hi W)
  go_enter Tryd.func39, Tryd.ntmps39
  go_wp2_with fail
  refine (HS.out _).mono ?_
  rintro e w1 ⟨rfl, rfl⟩
  go_wp2_with fail
  go_ret
  exact ⟨rfl, rfl⟩
theorem itoa_any (i : Nat) (hi : i < 12) (w : World) : Calls Tryd.prog 25 #[.int .i64 (i : Int)] w fun r w' => r = .returned (.string (sI i)) ∧ w' = w := by
  have HS := hid (fun W => itoi_any i hi W)
  go_enter Tryd.func25, Tryd.ntmps25
  go_wp2_with fail
  refine (HS.out _).mono ?_
  rintro e w1 ⟨rfl, rfl⟩
  go_wp2_with fail
  go_ret
  exact ⟨rfl, rfl⟩
def pvaS : Nat → ByteArray
  | 0 => ⟨#[112]⟩
  | 1 => ⟨#[118]⟩
  | _ => ⟨#[97]⟩
/-- The name of a number: order o, part i, axis j. -/
def nmS (o i j : Nat) : ByteArray := pvaS o ++ sI i ++ ⟨#[46]⟩ ++ sI j
def nmL (K : Nat → Int) (L : List (Nat × Nat)) : List ByteArray := L.flatMap (fun e => (List.range (szK (K e.1)).toNat).map (fun o => nmS o e.1 e.2))
def stL (l : List ByteArray) : List Value := l.map Value.string
theorem info_st0 : (Tryd.prog.info? 9).map (fun i => (i.zero, i.size, i.bytes)) = some (some (.string ⟨#[]⟩), 1, 16) := by kernel_rfl
theorem info_st : ∃ i, Tryd.prog.info? 9 = some i ∧ i.zero = some (.string ⟨#[]⟩) ∧ i.size = 1 ∧ i.bytes = 16 := by
  have h := info_st0
  cases hi : Tryd.prog.info? 9 with
  | none => rw [hi] at h; cases h
  | some i =>
    rw [hi] at h
    simp only [Option.map_some, Option.some.injEq, Prod.mk.injEq] at h
    exact ⟨i, rfl, h.1, h.2.1, h.2.2⟩
theorem one_st {W : World} {b : Nat} {s : ByteArray} (h : W.heap[b]? = some (.cells #[.string s] 9)) : W.cell? ⟨b, 0, none⟩ = some (.string s) := by simp [World.cell?, h]
/-- One text more. -/
theorem st_append (ty : TypeId) {wr : World} {B : Nat} {v : Value} {l : List ByteArray} {s : ByteArray} (h : wr.ownsRow B 9 1 v l.length (stL l)) (hk : l.length ≤ 1000) (hB : B ≤ wr.heap.size) :
    ∃ v' w9, (Builtin.append_ #[44, 44] ty #[v, .slice (some ⟨wr.heap.size, 0, none⟩) 1 1]).run Tryd.prog (wr.alloc (.cells #[.string s] 9)) = .ok v' w9 ∧ w9.ownsRow B 9 1 v' (l ++ [s]).length (stL (l ++ [s])) ∧ (wr.alloc (.cells #[.string s] 9)).grownBy w9 v.ownBlock ∧ Below B (wr.alloc (.cells #[.string s] 9)) w9 := by
  obtain ⟨i0, hi, hz0, hz1, hz2⟩ := info_st
  have hal : Below wr.heap.size wr (wr.alloc (.cells #[.string s] 9)) := (Below.refl _ _).alloc (Nat.le_refl _) _
  have hown := owns_keepB h hal
  have hnb := nblkM wr (.cells #[.string s] 9)
  have hcell : ∀ (j : Nat) u, [Value.string s][j]? = some u → (wr.alloc (.cells #[.string s] 9)).cell? ((⟨wr.heap.size, 0, none⟩ : Addr).add j) = some u := by
    intro j u hj
    rw [Go.WideShapes.add_plain, Nat.zero_add]
    match j, hj with
    | 0, hj => simp at hj; subst hj; exact one_st hnb
  obtain ⟨v', w9, hrun, hown', hgr, _⟩ := run_append_own (P := Tryd.prog) (wr.alloc (.cells #[.string s] 9)) B 44 ty 9 i0 (.string ⟨#[]⟩) 1 16 Tryd.underlying44 hi hz0 hz1 hz2 rfl (by decide) v l.length (stL l) hown ⟨wr.heap.size, 0, none⟩ 1 1 [.string s] rfl hcell (by intro u hu; simp at hu; rw [hu]; rfl) (by unfold maxLen; omega) (by omega) (by simp; omega)
  refine ⟨v', w9, hrun, ?_, hgr, (Below.refl _ _).grown hgr (by simp; omega) (fun g hg => (World.ownsRow.lt hown g hg).1)⟩
  rw [List.length_append]
  unfold stL at hown' ⊢
  rw [List.map_append]
  exact hown'
end Go.Proofs.YtfngjoaghbofgabDoor
