
/- What dyad's aligned does: both magnitudes by one exponent. -/
import Derived.Test.YtpncignipghicaaDoorP20
namespace Go.Proofs.YtpncignipghicaaDoor
open Go.RowKit Go.IntWalk

theorem dleft_nat (L : List Nat) (a : Option Addr) (cap n : Nat) (w : World) (hm : MagAt w a L) (hn : n ≤ 1000000) (hl : L.length ≤ 1000000) (hD : DigL L) :
    Calls Tryd.prog 94 #[.slice a L.length cap, .int .i64 (n : Nat)] w fun r w' => MagOk (natL L * 2 ^ n) (L.length + n / 32 + 1) r w' ∧ Below w.heap.size w w' := by
  have := dleft_any L a cap (n / 32) (n % 32) w hm (Nat.mod_lt _ (by decide)) (by omega) hl hD
  rw [show 32 * (n / 32) + n % 32 = n by omega] at this
  exact this
/-- A dyad in a block of its own. -/
def DyBox (neg : Bool) (a : Option Addr) (n cap : Nat) (e : Int) : Obj := .cells #[.bool neg, .slice a n cap, .int .i64 e] 25
def AlW (w : World) (n1 n2 : Bool) (a1 a2 : Option Addr) (l1 l2 c1 c2 : Nat) (e1 e2 : Int) : World := (w.alloc (DyBox n1 a1 l1 c1 e1)).alloc (DyBox n2 a2 l2 c2 e2)
def DCells (W : World) (b : Nat) (neg : Bool) (a : Option Addr) (n cap : Nat) (e : Int) : Prop := W.cell? ⟨b, 0, none⟩ = some (.bool neg) ∧ W.cell? ⟨b, 1, none⟩ = some (.slice a n cap) ∧ W.cell? ⟨b, 2, none⟩ = some (.int .i64 e)
theorem dcells_of {W : World} {b : Nat} {neg : Bool} {a : Option Addr} {n cap : Nat} {e : Int} (h : W.heap[b]? = some (DyBox neg a n cap e)) : DCells W b neg a n cap e :=
  ⟨by simp [World.cell?, h, DyBox], by simp [World.cell?, h, DyBox], by simp [World.cell?, h, DyBox]⟩
theorem new_blk (w : World) (o : Obj) (k : Nat) (hk : k = w.heap.size) : (w.alloc o).heap[k]? = some o := by
  rw [hk]
  exact Array.getElem?_push_size
theorem AlW.size (w : World) (n1 n2 : Bool) (a1 a2 : Option Addr) (l1 l2 c1 c2 : Nat) (e1 e2 : Int) : (AlW w n1 n2 a1 a2 l1 l2 c1 c2 e1 e2).heap.size = w.heap.size + 2 := by unfold AlW; simp
theorem AlW.below (w : World) (n1 n2 : Bool) (a1 a2 : Option Addr) (l1 l2 c1 c2 : Nat) (e1 e2 : Int) : Below w.heap.size w (AlW w n1 n2 a1 a2 l1 l2 c1 c2 e1 e2) := ((Below.refl _ _).alloc (Nat.le_refl _) _).alloc (by simp) _
theorem AlW.cells (w : World) (n1 n2 : Bool) (a1 a2 : Option Addr) (l1 l2 c1 c2 : Nat) (e1 e2 : Int) : (AlW w n1 n2 a1 a2 l1 l2 c1 c2 e1 e2).heap[w.heap.size]? = some (DyBox n1 a1 l1 c1 e1) ∧ (AlW w n1 n2 a1 a2 l1 l2 c1 c2 e1 e2).heap[w.heap.size + 1]? = some (DyBox n2 a2 l2 c2 e2) := by
  unfold AlW
  refine ⟨?_, new_blk _ _ _ (by simp)⟩
  rw [((Below.refl _ (w.alloc (DyBox n1 a1 l1 c1 e1))).alloc (Nat.le_refl _) _).block w.heap.size (by simp)]
  exact new_blk w _ _ rfl
/-- What stays while both are shifted. -/
def AlFr (w : World) (n1 n2 : Bool) (a1 a2 : Option Addr) (l1 l2 c1 c2 : Nat) (e1 e2 : Int) (W : World) : Prop := Below (w.heap.size + 2) (AlW w n1 n2 a1 a2 l1 l2 c1 c2 e1 e2) W
theorem AlFr.all {w : World} {n1 n2 : Bool} {a1 a2 : Option Addr} {l1 l2 c1 c2 : Nat} {e1 e2 : Int} {W : World} (h : AlFr w n1 n2 a1 a2 l1 l2 c1 c2 e1 e2 W) : DCells W w.heap.size n1 a1 l1 c1 e1 ∧ DCells W (w.heap.size + 1) n2 a2 l2 c2 e2 ∧ Below w.heap.size w W ∧ w.heap.size + 2 ≤ W.heap.size := by
  obtain ⟨a, b⟩ := AlW.cells w n1 n2 a1 a2 l1 l2 c1 c2 e1 e2
  have hs := h.size
  rw [AlW.size] at hs
  exact ⟨dcells_of ((h.block _ (by omega)).trans a), dcells_of ((h.block _ (by omega)).trans b), (AlW.below w n1 n2 a1 a2 l1 l2 c1 c2 e1 e2).trans (h.mono (by omega)), hs⟩
theorem AlFr.call {w : World} {n1 n2 : Bool} {a1 a2 : Option Addr} {l1 l2 c1 c2 : Nat} {e1 e2 : Int} {W W' : World} (h : AlFr w n1 n2 a1 a2 l1 l2 c1 c2 e1 e2 W) (hb : Below W.heap.size W W') : AlFr w n1 n2 a1 a2 l1 l2 c1 c2 e1 e2 W' := h.trans (hb.mono h.all.2.2.2)
set_option maxRecDepth 4000 in
set_option maxHeartbeats 2000000 in
theorem aligned_any (n1 n2 : Bool) (L1 L2 : List Nat) (a1 a2 : Option Addr) (c1 c2 i j : Nat) (e1 e2 m : Int) (w : World) (h1 : MagAt w a1 L1) (h2 : MagAt w a2 L2) (d1 : DigL L1) (d2 : DigL L2) (hl1 : L1.length ≤ 3000) (hl2 : L2.length ≤ 3000) (hm : min e1 e2 = m) (hi : e1 - m = (i : Int)) (hj : e2 - m = (j : Int)) (hi2 : i ≤ 300000) (hj2 : j ≤ 300000) :
    Calls Tryd.prog 61 #[.agg #[.bool n1, .slice a1 L1.length c1, .int .i64 e1], .agg #[.bool n2, .slice a2 L2.length c2, .int .i64 e2]] w fun r w' => ∃ X Y ax ay cx cy, r = .returned (.tuple #[.slice ax X.length cx, .slice ay Y.length cy, .int .i64 m]) ∧ MagIs (natL L1 * 2 ^ i) (L1.length + i / 32 + 1) X ax cx w' ∧ MagIs (natL L2 * 2 ^ j) (L2.length + j / 32 + 1) Y ay cy w' ∧ Below w.heap.size w w' := by
  have HLA : Hid (∀ W, Hid (AlFr w n1 n2 a1 a2 L1.length L2.length c1 c2 e1 e2 W) → Calls Tryd.prog 94 #[.slice a1 L1.length c1, .int .i64 (i : Nat)] W fun r w' => ∃ X ax cx, r = .returned (.slice ax X cx) ∧ Hid (∃ LX, LX.length = X ∧ MagIs (natL L1 * 2 ^ i) (L1.length + i / 32 + 1) LX ax cx w') ∧ Hid (Below W.heap.size W w') ∧ Hid (AlFr w n1 n2 a1 a2 L1.length L2.length c1 c2 e1 e2 w')) := fun W hW => by
    obtain ⟨_, _, hbw, _⟩ := hW.out.all
    refine (dleft_nat L1 a1 c1 i W (h1.below hbw) (by omega) (by omega) d1).mono ?_
    rintro r w' ⟨⟨LX, ax, cx, rfl, hok⟩, hb⟩
    exact ⟨LX.length, ax, cx, rfl, ⟨LX, rfl, hok⟩, hb, hW.out.call hb⟩
  have HLB : Hid (∀ W, Hid (AlFr w n1 n2 a1 a2 L1.length L2.length c1 c2 e1 e2 W) → Calls Tryd.prog 94 #[.slice a2 L2.length c2, .int .i64 (j : Nat)] W fun r w' => ∃ Y ay cy, r = .returned (.slice ay Y cy) ∧ Hid (∃ LY, LY.length = Y ∧ MagIs (natL L2 * 2 ^ j) (L2.length + j / 32 + 1) LY ay cy w') ∧ Hid (Below W.heap.size W w') ∧ Hid (AlFr w n1 n2 a1 a2 L1.length L2.length c1 c2 e1 e2 w')) := fun W hW => by
    obtain ⟨_, _, hbw, _⟩ := hW.out.all
    refine (dleft_nat L2 a2 c2 j W (h2.below hbw) (by omega) (by omega) d2).mono ?_
    rintro r w' ⟨⟨LY, ay, cy, rfl, hok⟩, hb⟩
    exact ⟨LY.length, ay, cy, rfl, ⟨LY, rfl, hok⟩, hb, hW.out.call hb⟩
  obtain ⟨l1, hl1'⟩ : ∃ l1, Hid (L1.length = l1) := ⟨_, rfl⟩
  obtain ⟨l2, hl2'⟩ : ∃ l2, Hid (L2.length = l2) := ⟨_, rfl⟩
  rw [hl1'.out, hl2'.out] at HLA HLB ⊢
  have HK : Hid (∀ W, Hid (AlFr w n1 n2 a1 a2 l1 l2 c1 c2 e1 e2 W) → ((W.cell? ⟨w.heap.size, 0, none⟩ = some (.bool n1) ∧ W.cell? ⟨w.heap.size, 1, none⟩ = some (.slice a1 l1 c1) ∧ W.cell? ⟨w.heap.size, 2, none⟩ = some (.int .i64 e1)) ∧ (W.cell? ⟨w.heap.size + 1, 0, none⟩ = some (.bool n2) ∧ W.cell? ⟨w.heap.size + 1, 1, none⟩ = some (.slice a2 l2 c2) ∧ W.cell? ⟨w.heap.size + 1, 2, none⟩ = some (.int .i64 e2))) ∧ Hid (AlFr w n1 n2 a1 a2 l1 l2 c1 c2 e1 e2 W)) := fun W h => ⟨⟨h.out.all.1, h.out.all.2.1⟩, h⟩
  have HQ0 : Hid (AlFr w n1 n2 a1 a2 l1 l2 c1 c2 e1 e2 (AlW w n1 n2 a1 a2 l1 l2 c1 c2 e1 e2).drew) := Below.drew (Below.refl _ _)
  have hd1 : IntKind.i64.wrap (e1 - m) = (i : Int) := by rw [IntWalk.i64_in _ (by omega)]; exact hi
  have hd2 : IntKind.i64.wrap (e2 - m) = (j : Int) := by rw [IntWalk.i64_in _ (by omega)]; exact hj
  have hi0 : IntKind.i64.wrap (i : Int) = (i : Int) := by rw [IntWalk.i64_in _ (by omega)]
  have hj0 : IntKind.i64.wrap (j : Int) = (j : Int) := by rw [IntWalk.i64_in _ (by omega)]
  unfold AlW DyBox at HQ0
  clear h1 h2 d1 d2 hl1 hl2 hi2 hj2 hi hj
  go_enter Tryd.func61, Tryd.ntmps61
  go_wp2_with fail
  go_region_held3 (fun W => ((W.cell? ⟨w.heap.size, 0, none⟩ = some (.bool n1) ∧ W.cell? ⟨w.heap.size, 1, none⟩ = some (.slice a1 l1 c1) ∧ W.cell? ⟨w.heap.size, 2, none⟩ = some (.int .i64 e1)) ∧ (W.cell? ⟨w.heap.size + 1, 0, none⟩ = some (.bool n2) ∧ W.cell? ⟨w.heap.size + 1, 1, none⟩ = some (.slice a2 l2 c2) ∧ W.cell? ⟨w.heap.size + 1, 2, none⟩ = some (.int .i64 e2))) ∧ Hid (AlFr w n1 n2 a1 a2 l1 l2 c1 c2 e1 e2 W))
    ((refine HK.out _ ?_; first | assumption | exact HQ0))
    (first
      | (go_at_call 94; with_reducible refine (HLA.out _ (And.right (by assumption))).mono ?_; rintro r w1 ⟨X, ax, cx, rfl, HX, HB1, HF1⟩)
      | (go_at_call 94; with_reducible refine (HLB.out _ (And.right (by assumption))).mono ?_; rintro r w2 ⟨Y, ay, cy, rfl, HY, HB2, HF2⟩))
  all_goals go_wp2
  all_goals go_ret3
  all_goals
    obtain ⟨LX, rfl, hX⟩ := HX.out
    obtain ⟨LY, rfl, hY⟩ := HY.out
    exact ⟨LX, LY, ax, ay, cx, cy, rfl, ⟨hX.1, hX.2.1, hX.2.2.1.below HB2.out, hX.2.2.2⟩, hY, HF2.out.all.2.2.1⟩
end Go.Proofs.YtpncignipghicaaDoor
