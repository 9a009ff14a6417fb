
/- What clock's worstMiss does. -/
import Derived.Test.YtfdphegiafccpabP19
namespace Go.Proofs.Ytfdphegiafccpab
open Go.RowKit Go.IntWalk

theorem run_max_ints3 {P : Program} (w : World) (ts : Array TypeId) (t : TypeId) (k k' k'' : IntKind) (x y z : Int) :
    (Builtin.max_ ts t #[.int k x, .int k' y, .int k'' z]).run P w = .ok (.int k (max (max x y) z)) w := by
  have e : (if y > x then y else x) = max x y := by
    rw [Int.max_def]
    split <;> split <;> omega
  have e2 : (if z > max x y then z else max x y) = max (max x y) z := by
    rw [Int.max_def (max x y) z]
    split <;> split <;> omega
  simp [Builtin.max_, Builtin.max2, e, e2]
/-- The worst miss: not below 0, and 0 where nothing is missed. -/
def WmOk (o : Int) (N D : Nat) (C T : Nat → Int) (n : Nat) (r : Ending) : Prop := ∃ v : Int, r = .returned (.int .i64 v) ∧ 0 ≤ v ∧ v ≤ 9223372036854775807 ∧ ((∀ i, i < n → o + floV (C i) N D = T i) → v = 0)
def PBox (x y : Int) : Obj := .cells #[.int .i64 x, .int .i64 y] 36
theorem pcells_of {W : World} {b : Nat} {v0 v1 : Value} {T : TypeId} (h : W.heap[b]? = some (.cells #[v0, v1] T)) : W.cell? ⟨b, 0, none⟩ = some v0 ∧ W.cell? ⟨b, 1, none⟩ = some v1 ∧ (∀ o, W.frozen? ⟨b, o, none⟩ = false) :=
  ⟨by simp [World.cell?, h], by simp [World.cell?, h], fun o => by simp [World.frozen?, h]⟩
theorem pbox {w W : World} (x y : Int) (hb : Below (w.alloc (PBox x y)).heap.size (w.alloc (PBox x y)) W) : (W.cell? ⟨w.heap.size, 0, none⟩ = some (.int .i64 x) ∧ W.cell? ⟨w.heap.size, 1, none⟩ = some (.int .i64 y)) ∧ Below w.heap.size w W := by
  have g1 := cnew w (PBox x y)
  have t1 := pcells_of ((hb.block _ (Array.getElem?_eq_some_iff.1 g1).1).trans g1)
  have h0 : Below w.heap.size w (w.alloc (PBox x y)) := (Below.refl _ _).alloc (Nat.le_refl _) _
  exact ⟨⟨t1.1, t1.2.1⟩, h0.trans (hb.mono h0.size)⟩
set_option maxRecDepth 2000 in
set_option maxHeartbeats 4000000 in
theorem worst_any (o n d : Int) (N D : Nat) (sa : Option Addr) (l cap : Nat) (C T : Nat → Int) (w : World) (hp : PrAt w sa l C T) (hl : l ≤ 1024) (hT : ∀ i, i < l → inB (T i) = true) (hn : n = (N : Int)) (hd : d = (D : Int)) (hN : N ≤ 1000000000) (hD : D ≤ 1000000000) (h1 : -1125899906842624 ≤ o) (h2 : o ≤ 1125899906842624) :
    Calls Try.prog 18 #[.agg #[.int .i64 o, .int .i64 n, .int .i64 d], .slice sa l cap] w fun r w' => WmOk o N D C T l r ∧ Below w.heap.size w w' := by
  have hmx := @run_max_ints3 Try.prog
  have HK := hid (fun W => @ckbox w W o n d)
  have HP := hid hp
  have HTO := hid (fun k W h3 h4 => timeOf_any o n d k N D W hn hd hN hD h1 h2 h3 h4)
  have HTB := hid hT
  have HO := hid (And.intro h1 h2)
  obtain ⟨W0, hW0⟩ : ∃ V, Hid (w.alloc (CBox o n d) = V) := ⟨_, rfl⟩
  rw [hW0.out] at HK
  obtain ⟨⟨c0, c1, c2⟩, hb0⟩ := HK.out W0 (Below.refl _ _)
  have HB00 := hid hb0
  unfold CBox at hW0
  have hW0' := hW0.out
  clear hp hT hn hd hN hD h1 h2 hb0
  go_enter Try.func18, Try.ntmps18
  go_wp2
  go_loopw [5, 11] (fun mv iv wr => ∃ (k : Nat) (v : Int), mv = .int .i64 v ∧ iv = .int .i64 k ∧ k ≤ l ∧ (0 ≤ v ∧ v ≤ 9223372036854775807) ∧ Hid ((∀ i, i < k → o + floV (C i) N D = T i) → v = 0) ∧ Hid (Below W0.heap.size W0 wr)) (fun _ iv _ => l - (intOf iv).toNat)
  case atStart => exact ⟨0, 0, rfl, rfl, Nat.zero_le _, by omega, fun _ => rfl, Below.refl _ _⟩
  case round =>
    obtain ⟨k, v, rfl, rfl, hk, hv, HV, HB⟩ := hrel
    by_cases hlt : k < l
    · obtain ⟨b, off, rfl, hbl, hcl⟩ := HP.out.2 (by omega)
      obtain ⟨a1, a2⟩ := hcl k hlt
      have hbb := (HK.out wr HB.out).2
      have a3 : wr.cell? ⟨b, off + k * 2, none⟩ = some (.int .i64 (C k)) := by rw [hbb.cell (p := ⟨b, off + k * 2, none⟩) hbl]; exact a1
      have a4 : wr.cell? ⟨b, off + k * 2 + 1, none⟩ = some (.int .i64 (T k)) := by rw [hbb.cell (p := ⟨b, off + k * 2 + 1, none⟩) hbl]; exact a2
      have hkI : (k : Int) < (l : Int) := by omega
      obtain ⟨⟨x1, x2⟩, y1, y2⟩ := HP.out.1 k hlt
      have hTk := (inB_iff _).1 (HTB.out k hlt)
      have hfb := floV_bounds (C k) N D
      obtain ⟨ob1, ob2⟩ := HO.out
      obtain ⟨x, hx⟩ : ∃ t, C k = t := ⟨_, rfl⟩
      obtain ⟨y, hy⟩ : ∃ t, T k = t := ⟨_, rfl⟩
      have HTM := hid (fun W => HTO.out x W (by omega) (by omega))
      obtain ⟨F, hF⟩ : ∃ t, o + floV (C k) N D = t := ⟨_, rfl⟩
      rw [hx] at hF
      rw [hF] at HTM
      obtain ⟨M, hM⟩ : ∃ t, F - y = t := ⟨_, rfl⟩
      have wM : IntKind.i64.wrap M = M := IntWalk.i64_in _ (by rw [hx] at hfb; omega)
      have wM2 : wrap64 M = M := wrap64_in _ (by rw [hx] at hfb; omega)
      have wM3 : wrap64 (-M) = -M := wrap64_in _ (by rw [hx] at hfb; omega)
      have HV2 : Hid ((∀ i, i < k + 1 → o + floV (C i) N D = T i) → max (max v M) (-M) = 0) := hid (fun h => by
        have e1 := HV.out (fun i hi => h i (by omega))
        have e2 := h k (by omega)
        rw [hx, hF, hy] at e2
        omega)
      have HVB : Hid (0 ≤ max (max v M) (-M) ∧ max (max v M) (-M) ≤ 9223372036854775807) := hid (by rw [hx] at hfb; omega)
      rw [hx] at a3
      rw [hy] at a4
      have HPB := hid (fun W => @pbox wr W x y)
      obtain ⟨W1, hW1⟩ : ∃ V, Hid (wr.alloc (PBox x y) = V) := ⟨_, rfl⟩
      rw [hW1.out] at HPB
      obtain ⟨⟨p0, p1⟩, hb1⟩ := HPB.out W1 (Below.refl _ _)
      have HB1 := hid (HB.out.trans (hb1.mono HB.out.size))
      obtain ⟨⟨q0, q1, q2⟩, _⟩ := HK.out W1 HB1.out
      unfold PBox at hW1
      have hW1' := hW1.out
      have HKS : Hid (∀ W, Hid (Below W1.heap.size W1 W) → ((W.cell? ⟨w.heap.size, 0, none⟩ = some (.int .i64 o) ∧ W.cell? ⟨w.heap.size, 1, none⟩ = some (.int .i64 n) ∧ W.cell? ⟨w.heap.size, 2, none⟩ = some (.int .i64 d)) ∧ W.cell? ⟨wr.heap.size, 0, none⟩ = some (.int .i64 x) ∧ W.cell? ⟨wr.heap.size, 1, none⟩ = some (.int .i64 y)) ∧ Hid (Below W1.heap.size W1 W)) := fun W hb => ⟨⟨(HK.out W (HB1.out.trans (hb.out.mono HB1.out.size))).1, (HPB.out W hb.out).1⟩, hb⟩
      have HCT : Hid (∀ W, Hid (Below W1.heap.size W1 W) → Calls Try.prog 19 #[.agg #[.int .i64 o, .int .i64 n, .int .i64 d], .int .i64 x] W fun r w' => r = .returned (.int .i64 F) ∧ Hid (Below W1.heap.size W1 w')) := fun W hb => by
        refine (HTM.out W).mono ?_
        rintro r w' ⟨rfl, h⟩
        exact ⟨rfl, hb.out.trans (h.mono hb.out.size)⟩
      have HQ0 : Hid (Below W1.heap.size W1 W1.drew) := (Below.refl _ _).drew
      clear a1 a2 hcl x1 x2 y1 y2 hTk hfb ob1 ob2 hx hy hF hb1 hbb
      go_wp2_with fail
      go_region_held3 (fun W => ((W.cell? ⟨w.heap.size, 0, none⟩ = some (.int .i64 o) ∧ W.cell? ⟨w.heap.size, 1, none⟩ = some (.int .i64 n) ∧ W.cell? ⟨w.heap.size, 2, none⟩ = some (.int .i64 d)) ∧ W.cell? ⟨wr.heap.size, 0, none⟩ = some (.int .i64 x) ∧ W.cell? ⟨wr.heap.size, 1, none⟩ = some (.int .i64 y)) ∧ Hid (Below W1.heap.size W1 W))
        ((refine HKS.out _ ?_; first | with_reducible assumption | with_reducible exact HQ0))
        (first
          | (go_at_call 19; refine (HCT.out _ (And.right (by assumption))).mono ?_; rintro r v3 ⟨rfl, HB3⟩)
          | fail)
      have HB4 := hid (HB1.out.trans (HB3.out.mono HB1.out.size))
      generalize hmm : max (max v M) (-M) = m at *
      go_wp2
      go_roundw
      case rel => exact ⟨k + 1, m, rfl, by go_num, by omega, HVB.out, HV2, HB4⟩
      case measure => simp [intOf]; omega
    · have hkn : k = l := by omega
      subst hkn
      have HF : Hid (WmOk o N D C T k (.returned (.int .i64 v))) := hid ⟨v, rfl, hv.1, hv.2, HV.out⟩
      have HBE := hid (HK.out wr HB.out).2
      go_wp2
      go_ret
      exact ⟨HF.out, HBE.out⟩
end Go.Proofs.Ytfdphegiafccpab
