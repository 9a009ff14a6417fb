
/- What clock's limited, Check, timeOf do. -/
import Derived.Test.YtfdphegiafccpabP12
namespace Go.Proofs.Ytfdphegiafccpab
open Go.RowKit Go.IntWalk

def CBox (o n d : Int) : Obj := .cells #[.int .i64 o, .int .i64 n, .int .i64 d] 31
theorem ccells_of {W : World} {b : Nat} {v0 v1 v2 : Value} {T : TypeId} (h : W.heap[b]? = some (.cells #[v0, v1, v2] T)) : W.cell? ⟨b, 0, none⟩ = some v0 ∧ W.cell? ⟨b, 1, none⟩ = some v1 ∧ W.cell? ⟨b, 2, none⟩ = some v2 ∧ (∀ o, W.frozen? ⟨b, o, none⟩ = false) :=
  ⟨by simp [World.cell?, h], by simp [World.cell?, h], by simp [World.cell?, h], fun o => by simp [World.frozen?, h]⟩
theorem cnew (w : World) (o : Obj) : (w.alloc o).heap[w.heap.size]? = some o := Array.getElem?_push_size
theorem cequalIn (d : Nat) (a b : Int) (w : World) : (Op.equalIn (d + 1) 2 (.int .i64 a) (.int .i64 b)).run Try.prog w = .ok (a == b) w := by
  have h : Try.prog.underlying 2 = some (.int .i64) := by kernel_rfl
  simp [Op.equalIn, run_underlying h]
set_option maxHeartbeats 1000000 in
theorem limited_any (o n d : Int) (w : World) :
    Calls Try.prog 21 #[.agg #[.int .i64 o, .int .i64 n, .int .i64 d]] w fun r w' => r = .returned (.agg #[.int .i64 (min (max o (-1125899906842624)) 1125899906842624), .int .i64 (min (max n 1) 1000000000), .int .i64 (min (max d 1) 1000000000)]) ∧ Below w.heap.size w w' := by
  go_enter Try.func21, Try.ntmps21
  go_wp2
  exact bodyPost_ret (v := .agg #[.int .i64 (min (max o (-1125899906842624)) 1125899906842624), .int .i64 (min (max n 1) 1000000000), .int .i64 (min (max d 1) 1000000000)]) (by simp [results, Try.results21, go_sem]) rfl ⟨rfl, ((Below.refl _ _).alloc (Nat.le_refl _) _).alloc (by simp) _⟩
theorem cneq (a b c a' b' c' : Int) (w : World) : (binOp .neq 31 (.agg #[.int .i64 a, .int .i64 b, .int .i64 c]) (.agg #[.int .i64 a', .int .i64 b', .int .i64 c'])).run Try.prog w = .ok (.bool (!(a == a' && b == b' && c == c'))) w := by
  have hf := cequalIn
  rw [run_neq_struct, run_equalIn_struct w 9999 _ _ _ (by kernel_rfl) (by kernel_rfl)]
  simp [Op.eqFields, go_sem, hf]
  by_cases h1 : a = a' <;> by_cases h2 : b = b' <;> by_cases h3 : c = c' <;> simp [h1, h2, h3]
theorem ck_limits (o n d : Int) : (!(o == min (max o (-1125899906842624)) 1125899906842624 && n == min (max n 1) 1000000000 && d == min (max d 1) 1000000000)) = !ckB o n d := by
  congr 1
  rw [Bool.eq_iff_iff]
  unfold ckB
  simp only [Bool.and_eq_true, beq_iff_eq, decide_eq_true_eq]
  omega
/-- Check's error. -/
def ckE (o n d : Int) : Int := if ckB o n d = true then 0 else 130
set_option maxHeartbeats 1000000 in
theorem Check_any (o n d : Int) (w : World) :
    Calls Try.prog 10 #[.agg #[.int .i64 o, .int .i64 n, .int .i64 d]] w fun r w' => r = .returned (.int .i64 (ckE o n d)) ∧ Below w.heap.size w w' := by
  have HB0 : Hid (Below w.heap.size w (w.alloc (CBox o n d))) := (Below.refl _ _).alloc (Nat.le_refl _) _
  have g1 := cnew w (CBox o n d)
  obtain ⟨W0, hW0⟩ : ∃ V, Hid (w.alloc (CBox o n d) = V) := ⟨_, rfl⟩
  rw [hW0.out] at HB0 g1
  have HK : Hid (∀ W, Hid (Below W0.heap.size W0 W) → (W.cell? ⟨w.heap.size, 0, none⟩ = some (.int .i64 o) ∧ W.cell? ⟨w.heap.size, 1, none⟩ = some (.int .i64 n) ∧ W.cell? ⟨w.heap.size, 2, none⟩ = some (.int .i64 d)) ∧ Hid (Below W0.heap.size W0 W)) := fun W hW => by
    have t1 := ccells_of ((hW.out.block _ (Array.getElem?_eq_some_iff.1 g1).1).trans g1)
    exact ⟨⟨t1.1, t1.2.1, t1.2.2.1⟩, hW⟩
  have hcn := cneq
  have HL := ck_limits o n d
  have HE : Hid (∀ W, Hid (Below W0.heap.size W0 W) → Calls Try.prog 21 #[.agg #[.int .i64 o, .int .i64 n, .int .i64 d]] W fun r w' => r = .returned (.agg #[.int .i64 (min (max o (-1125899906842624)) 1125899906842624), .int .i64 (min (max n 1) 1000000000), .int .i64 (min (max d 1) 1000000000)]) ∧ Hid (Below W0.heap.size W0 w')) := fun W hW => by
    refine (limited_any o n d W).mono ?_
    rintro r w' ⟨rfl, hb⟩
    exact ⟨rfl, hW.out.trans (hb.mono hW.out.size)⟩
  obtain ⟨x, hx⟩ : ∃ t, min (max o (-1125899906842624)) 1125899906842624 = t := ⟨_, rfl⟩
  obtain ⟨y, hy⟩ : ∃ t, min (max n 1) 1000000000 = t := ⟨_, rfl⟩
  obtain ⟨z, hz⟩ : ∃ t, min (max d 1) 1000000000 = t := ⟨_, rfl⟩
  rw [hx, hy, hz] at HE HL
  clear hx hy hz
  obtain ⟨E, hE⟩ : ∃ t, Hid (ckE o n d = t) := ⟨_, rfl⟩
  rw [hE.out]
  have HCE := hE.out
  unfold ckE at HCE
  have HCE' := hid HCE
  clear HCE
  obtain ⟨b, hb⟩ : ∃ t, ckB o n d = t := ⟨_, rfl⟩
  rw [hb] at HL HCE'
  clear hb
  unfold CBox at hW0
  have hW0' := hW0.out
  clear g1
  go_enter Try.func10, Try.ntmps10
  go_wp2_with fail
  have HQ0 : Hid (Below W0.heap.size W0 W0.drew) := (Below.refl _ _).drew
  go_region_held3 (fun W => (W.cell? ⟨w.heap.size, 0, none⟩ = some (.int .i64 o) ∧ W.cell? ⟨w.heap.size, 1, none⟩ = some (.int .i64 n) ∧ W.cell? ⟨w.heap.size, 2, none⟩ = some (.int .i64 d)) ∧ Hid (Below W0.heap.size W0 W))
    ((refine HK.out _ ?_; first | with_reducible assumption | with_reducible exact HQ0))
    (first
      | (go_at_call 21; refine (HE.out _ (And.right (by assumption))).mono ?_; rintro r w3 ⟨rfl, HB3⟩)
      | fail)
  cases b
  all_goals
    go_wp2
    go_ret
    exact ⟨ret_int HCE'.out, HB0.out.trans (HB3.out.mono HB0.out.size)⟩
end Go.Proofs.Ytfdphegiafccpab
