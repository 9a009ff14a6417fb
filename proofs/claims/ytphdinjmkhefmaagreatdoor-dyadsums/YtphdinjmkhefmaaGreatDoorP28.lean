
/- What the document's Mul does. -/
import Derived.Test.YtphdinjmkhefmaaGreatDoorP10
import Derived.Test.YtphdinjmkhefmaaGreatDoorP27
namespace Go.Proofs.YtphdinjmkhefmaaGreatDoor
open Go.RowKit Go.IntWalk

set_option maxHeartbeats 4000000 in
theorem Mul_big (z x y : Nat) (n1 n2 : Bool) (A B : List Nat) (w : World) (hz : ZOk z w w) (hxz : x ≠ z) (hyz : y ≠ z) (hx : BigAt w x n1 A) (hy : BigAt w y n2 B) (hA : A.length ≤ 400000) (hB : B.length ≤ 400000) :
    Calls Tryz.prog 41 #[.pointer (some ⟨z, 0, none⟩), .pointer (some ⟨x, 0, none⟩), .pointer (some ⟨y, 0, none⟩)] w fun r w' => r = .returned (.pointer (some ⟨z, 0, none⟩)) ∧ PutIs z ((n1 != n2) && decide (natL A * natL B ≠ 0)) (natL A * natL B) (A.length + B.length) w w' := by
  obtain ⟨a, ca, ho, hcap, hm, hd, hc, hneg⟩ := hx
  obtain ⟨c0, c1, hf, hlt⟩ := int_cells ho
  obtain ⟨b, cb, ho', hcap', hm', hd', hc', hneg'⟩ := hy
  obtain ⟨c0', c1', hf', hlt'⟩ := int_cells ho'
  have HMA : Hid (∀ w', ZOk z w w' → MagAt w' a A) := by
    intro w' hw
    obtain ⟨_, neg0, a0, n0, cap0, hoz⟩ := hz
    refine hm.but hw.1 (fun b off e h0 => ?_)
    obtain ⟨b', off', e', hne⟩ := mag_ne hoz hm h0
    rw [e] at e'
    cases e'
    exact hne
  have HMB : Hid (∀ w', ZOk z w w' → MagAt w' b B) := by
    intro w' hw
    obtain ⟨_, neg0, a0, n0, cap0, hoz⟩ := hz
    refine hm'.but hw.1 (fun b off e h0 => ?_)
    obtain ⟨b', off', e', hne⟩ := mag_ne hoz hm' h0
    rw [e] at e'
    cases e'
    exact hne
  have HL : Hid (∀ w', Hid (ZOk z w w') → Calls Tryz.prog 68 #[.slice a A.length ca, .slice b B.length cb] w' fun r w1 => ∃ L' a' cap', r = .returned (.slice a' L'.length cap') ∧ Hid (MagIs (natL A * natL B) (A.length + B.length) L' a' cap' w1) ∧ Hid (ZOk z w w1)) := by
    intro w' hw
    refine (times_any A B a b ca cb w' (HMA.out _ hw.out) (HMB.out _ hw.out) hA hB hd hd').mono ?_
    rintro r w1 ⟨⟨L', a', cap', hr, h1⟩, hb1⟩
    exact ⟨L', a', cap', hr, h1, ZOk.below hw.out hb1⟩
  obtain ⟨v, hv⟩ : ∃ v, Hid (natL A * natL B = v) := ⟨_, rfl⟩
  obtain ⟨bd, hbd⟩ : ∃ bd, Hid (A.length + B.length = bd) := ⟨_, rfl⟩
  rw [hv.out, hbd.out] at HL ⊢
  have HP : Hid (∀ w1 L' a' cap', Hid (ZOk z w w1) → Hid (MagIs v bd L' a' cap' w1) → Calls Tryz.prog 66 #[.pointer (some ⟨z, 0, none⟩), .bool (n1 != n2), .slice a' L'.length cap'] w1 fun r w' => r = .returned (.pointer (some ⟨z, 0, none⟩)) ∧ Hid (PutIs z ((n1 != n2) && decide (v ≠ 0)) v bd w w') ∧ Hid (ZOk z w w')) := by
    intro w1 L' a' cap' h1 h2
    refine (put_is z (n1 != n2) v bd w w1 L' a' cap' h1.out h2.out (by have := hbd.out; omega)).mono ?_
    rintro r w' ⟨rfl, L', e1, e2, e3, e4⟩
    exact ⟨rfl, ⟨L', e1, e2, e3, e4⟩, ZOk.big h1.out e4 e3⟩
  obtain ⟨k, hk⟩ : ∃ k, Hid (A.length = k) := ⟨_, rfl⟩
  obtain ⟨l, hl⟩ : ∃ l, Hid (B.length = l) := ⟨_, rfl⟩
  rw [hk.out] at HL c1
  rw [hl.out] at HL c1'
  have HK : Hid (∀ w', Hid (ZOk z w w') → (w'.cell? ⟨x, 0, none⟩ = some (.bool n1) ∧ w'.cell? ⟨x, 1, none⟩ = some (.slice a k ca) ∧ w'.cell? ⟨y, 0, none⟩ = some (.bool n2) ∧ w'.cell? ⟨y, 1, none⟩ = some (.slice b l cb)) ∧ Hid (ZOk z w w')) := fun w' h => ⟨⟨h.out.1.cell c0 hxz, h.out.1.cell c1 hxz, h.out.1.cell c0' hyz, h.out.1.cell c1' hyz⟩, h⟩
  have HZ0 : Hid (ZOk z w w.drew) := hz.drew
  clear hz hA hB hm hm' hd hd' hc hc' hneg hneg' ho ho' hcap hcap' hf hf' HMA HMB hxz hyz
  cases n1 <;> cases n2
  all_goals simp only [bne_self_eq_false, Bool.false_bne, Bool.true_bne, Bool.not_false] at HP ⊢
  all_goals
    go_enter Tryz.func41, Tryz.ntmps41
    go_wp2_with fail
  · go_region_held3 (fun w' => (w'.cell? ⟨x, 0, none⟩ = some (.bool false) ∧ w'.cell? ⟨x, 1, none⟩ = some (.slice a k ca) ∧ w'.cell? ⟨y, 0, none⟩ = some (.bool false) ∧ w'.cell? ⟨y, 1, none⟩ = some (.slice b l cb)) ∧ Hid (ZOk z w w')) (exact HK.out _ (by assumption))
      (first
        | (go_at_call 68; refine (HL.out _ (And.right (by assumption))).mono ?_; rintro r w2 ⟨L', a', cap', rfl, HM, HZ2⟩)
        | (go_at_call 66; refine (HP.out _ _ _ _ (by assumption) (by assumption)).mono ?_; rintro r w3 ⟨rfl, HE, HZ3⟩))
    all_goals go_wp2
    all_goals go_ret
    all_goals exact ⟨rfl, Hid.out (by assumption)⟩
  · go_region_held3 (fun w' => (w'.cell? ⟨x, 0, none⟩ = some (.bool false) ∧ w'.cell? ⟨x, 1, none⟩ = some (.slice a k ca) ∧ w'.cell? ⟨y, 0, none⟩ = some (.bool true) ∧ w'.cell? ⟨y, 1, none⟩ = some (.slice b l cb)) ∧ Hid (ZOk z w w')) (exact HK.out _ (by assumption))
      (first
        | (go_at_call 68; refine (HL.out _ (And.right (by assumption))).mono ?_; rintro r w2 ⟨L', a', cap', rfl, HM, HZ2⟩)
        | (go_at_call 66; refine (HP.out _ _ _ _ (by assumption) (by assumption)).mono ?_; rintro r w3 ⟨rfl, HE, HZ3⟩))
    all_goals go_wp2
    all_goals go_ret
    all_goals exact ⟨rfl, Hid.out (by assumption)⟩
  · go_region_held3 (fun w' => (w'.cell? ⟨x, 0, none⟩ = some (.bool true) ∧ w'.cell? ⟨x, 1, none⟩ = some (.slice a k ca) ∧ w'.cell? ⟨y, 0, none⟩ = some (.bool false) ∧ w'.cell? ⟨y, 1, none⟩ = some (.slice b l cb)) ∧ Hid (ZOk z w w')) (exact HK.out _ (by assumption))
      (first
        | (go_at_call 68; refine (HL.out _ (And.right (by assumption))).mono ?_; rintro r w2 ⟨L', a', cap', rfl, HM, HZ2⟩)
        | (go_at_call 66; refine (HP.out _ _ _ _ (by assumption) (by assumption)).mono ?_; rintro r w3 ⟨rfl, HE, HZ3⟩))
    all_goals go_wp2
    all_goals go_ret
    all_goals exact ⟨rfl, Hid.out (by assumption)⟩
  · go_region_held3 (fun w' => (w'.cell? ⟨x, 0, none⟩ = some (.bool true) ∧ w'.cell? ⟨x, 1, none⟩ = some (.slice a k ca) ∧ w'.cell? ⟨y, 0, none⟩ = some (.bool true) ∧ w'.cell? ⟨y, 1, none⟩ = some (.slice b l cb)) ∧ Hid (ZOk z w w')) (exact HK.out _ (by assumption))
      (first
        | (go_at_call 68; refine (HL.out _ (And.right (by assumption))).mono ?_; rintro r w2 ⟨L', a', cap', rfl, HM, HZ2⟩)
        | (go_at_call 66; refine (HP.out _ _ _ _ (by assumption) (by assumption)).mono ?_; rintro r w3 ⟨rfl, HE, HZ3⟩))
    all_goals go_wp2
    all_goals go_ret
    all_goals exact ⟨rfl, Hid.out (by assumption)⟩
theorem NMul (z x y : Nat) (a b : Int) (b1 b2 : Nat) (w : World) (hz : ZOk z w w) (hxz : x ≠ z) (hyz : y ≠ z) (hx : NumAt w x a b1) (hy : NumAt w y b b2) (h1 : b1 ≤ 400000) (h2 : b2 ≤ 400000) :
    Calls Tryz.prog 41 #[.pointer (some ⟨z, 0, none⟩), .pointer (some ⟨x, 0, none⟩), .pointer (some ⟨y, 0, none⟩)] w fun r w' => r = .returned (.pointer (some ⟨z, 0, none⟩)) ∧ NumAt w' z (a * b) (b1 + b2) ∧ But z w w' := by
  obtain ⟨n1, A, rfl, hA, HA⟩ := hx
  obtain ⟨n2, B, rfl, hB, HB⟩ := hy
  refine (Mul_big z x y n1 n2 A B w hz hxz hyz HA HB (by omega) (by omega)).mono ?_
  rintro r w' ⟨rfl, L', e1, e2, e3, e4⟩
  refine ⟨rfl, ⟨_, L', ?_, by omega, e3⟩, e4⟩
  unfold intL
  rw [e1]
  by_cases h0 : natL A * natL B = 0
  · have hz0 : (natL A : Int) * (natL B : Int) = 0 := by rw [← Int.natCast_mul, h0]; rfl
    rw [h0]
    cases n1 <;> cases n2 <;> simp [hz0, Int.neg_mul, Int.mul_neg]
  · rw [decide_eq_true h0, Bool.and_true]
    cases n1 <;> cases n2 <;> simp [Int.natCast_mul, Int.neg_mul, Int.mul_neg]
end Go.Proofs.YtphdinjmkhefmaaGreatDoor

namespace Go.Proofs.YtphdinjmkhefmaaGreatDoor
open Go.RowKit Go.IntWalk

/-- As MagOk, and the words lie from block B on. -/
def MagOkF (B v bound : Nat) (r : Ending) (w' : World) : Prop := ∃ (L' : List Nat) (a' : Option Addr) (cap' : Nat), r = .returned (.slice a' L'.length cap') ∧ L'.length ≤ cap' ∧ L'.length ≤ bound ∧ MagAt w' a' L' ∧ DigL L' ∧ CanL L' ∧ natL L' = v ∧ (∀ p, a' = some p → B ≤ p.block)
def MagIsF (B v bound : Nat) (L' : List Nat) (a' : Option Addr) (cap' : Nat) (w' : World) : Prop := L'.length ≤ cap' ∧ L'.length ≤ bound ∧ MagAt w' a' L' ∧ DigL L' ∧ CanL L' ∧ natL L' = v ∧ (∀ p, a' = some p → B ≤ p.block)
def BigAtF (B : Nat) (w : World) (x : Nat) (neg : Bool) (L : List Nat) : Prop :=
  ∃ a cap, w.heap[x]? = some (.cells #[.bool neg, .slice a L.length cap] 57) ∧ L.length ≤ cap ∧ MagAt w a L ∧ DigL L ∧ CanL L ∧ (L = [] → neg = false) ∧ (∀ p, a = some p → B ≤ p.block)
def PutIsF (B z : Nat) (neg : Bool) (v bound : Nat) (w w' : World) : Prop := ∃ L', natL L' = v ∧ L'.length ≤ bound ∧ BigAtF B w' z neg L' ∧ But z w w'
set_option maxRecDepth 4000 in
set_option maxHeartbeats 1000000 in
theorem right_loopF (L : List Nat) (b off cap q s : Nat) (w : World) (hb : b < w.heap.size) (hcell : ∀ i, i < L.length → w.cell? ⟨b, off + i, none⟩ = some (.int .u32 (L.getD i 0))) (h0 : q < L.length) (hs : s < 32) (hq : q ≤ 1000000) (hn : L.length ≤ 1000000) (hD : DigL L) :
    Calls Tryz.prog 71 #[.slice (some ⟨b, off, none⟩) L.length cap, .int .u64 ((32 * q + s : Nat) : Int)] w fun r w' => MagOkF w.heap.size (natL L / 2 ^ (32 * q + s)) L.length r w' ∧ Below w.heap.size w w' := by
  have HC := hid hcell
  have HB := hid hb
  have HS := hid hs
  obtain ⟨n, hnl⟩ : ∃ n, Hid (L.length = n) := ⟨_, rfl⟩
  rw [hnl.out] at hn h0 ⊢
  obtain ⟨N, hN⟩ : ∃ N : Int, Hid (((32 * q + s : Nat) : Int) = N) := ⟨_, rfl⟩
  rw [hN.out]
  have hdiv : N / 32 = (q : Int) := by have := hN.out; omega
  have hmod : N % 32 = (s : Int) := by have := hN.out; omega
  have hqn : ¬ (n : Int) ≤ (q : Int) := by omega
  obtain ⟨M, hM⟩ : ∃ M, Hid (n - q = M) := ⟨_, rfl⟩
  have hM1 : IntKind.i64.wrap ((n : Int) - (q : Int)) = (M : Int) := by have := hM.out; rw [IntWalk.i64_in _ (by omega)]; omega
  have hM2 : (n : Int) - (q : Int) = (M : Int) := by have := hM.out; omega
  have hMn : q + M = n := by have := hM.out; omega
  have hmk := run_make_row' (P := Tryz.prog) 25 45 (.int .u32 0) 4 Tryz.underlying25 infoU rfl .i64 .i64 M (by have := hM.out; omega) (by have := hM.out; omega)
  have HMN := hid hMn
  clear hcell h0 hb hs hMn
  go_enter Tryz.func71, Tryz.ntmps71
  go_wp2
  go_loopw [8] (fun i wr => ∃ (k : Nat), k ≤ M ∧ i = .int .i64 k ∧ Hid (wr.rowIs w.heap.size 45 M (fun j => .int .u32 ((if j < k then rWord L q s j else 0 : Nat) : Int))) ∧ Hid (Below w.heap.size w wr)) (fun i _ => M - (intOf i).toNat)
  case atStart => exact ⟨0, Nat.zero_le _, rfl, (World.rowIs_made w (.int .u32 0) M _).congr (fun j _ => by rw [if_neg (Nat.not_lt_zero j)]; rfl), (Below.refl _ _).alloc (Nat.le_refl _) _⟩
  case round =>
    obtain ⟨k, hkM, rfl, HR, HBW⟩ := hrel
    by_cases hlt : k < M
    · obtain ⟨P, hP⟩ : ∃ P, Hid (q + k = P) := ⟨_, rfl⟩
      have hPn : P < n := by have := hP.out; have := HMN.out; omega
      have hPI : (P : Int) < (n : Int) := by omega
      have hP1 : IntKind.i64.wrap ((q : Int) + (k : Int)) = (P : Int) := by have := hP.out; rw [IntWalk.i64_in _ (by omega)]; omega
      have hP2 : (q : Int) + (k : Int) = (P : Int) := by have := hP.out; omega
      have hck : wr.cell? ⟨b, off + P, none⟩ = some (.int .u32 (L.getD P 0)) := by
        rw [HBW.out.cell (p := ⟨b, off + P, none⟩) HB.out]
        exact HC.out P (by rw [hnl.out]; exact hPn)
      have hdl := hD.get P
      have hel := hD.get (P + 1)
      have hrw := rWord_is L hD q s k HS.out
      rw [hP.out] at hrw
      have hmin : min s 64 = s := Nat.min_eq_left (by have := HS.out; omega)
      have hkI : (k : Int) < (M : Int) := by omega
      have fx := HR.out.frozen
      have hlt2 := HR.out.lt
      have cx := HR.out.cell (i := k) (by omega)
      rw [if_neg (Nat.lt_irrefl k)] at cx
      obtain ⟨d, hd⟩ : ∃ d, Hid (L.getD P 0 = d) := ⟨_, rfl⟩
      rw [hd.out] at hck hdl hrw
      have hwd : IntKind.u64.wrap (d : Int) = (d : Int) := by rw [IntKind.wrap_u64]; omega
      obtain ⟨r, hr⟩ : ∃ r, Hid (rWord L q s k = r) := ⟨_, rfl⟩
      have HROW : Hid (∀ j, (if j = k then Value.int .u32 (r : Int) else Value.int .u32 ((if j < k then rWord L q s j else 0 : Nat) : Int)) = Value.int .u32 ((if j < k + 1 then rWord L q s j else 0 : Nat) : Int)) := fun j => right_row L q s k r j hr.out
      rw [hr.out] at hrw
      have HF : Hid (wr.rowIs w.heap.size 45 M (fun j => .int .u32 ((if j < k then rWord L q s j else 0 : Nat) : Int)) ∧ Below w.heap.size w wr) := ⟨HR.out, HBW.out⟩
      clear HR HBW hr
      by_cases hc : P + 1 < n
      · have hck2 : wr.cell? ⟨b, off + (P + 1), none⟩ = some (.int .u32 (L.getD (P + 1) 0)) := by
          rw [HF.out.2.cell (p := ⟨b, off + (P + 1), none⟩) HB.out]
          exact HC.out (P + 1) (by rw [hnl.out]; exact hc)
        obtain ⟨e, he⟩ : ∃ e, Hid (L.getD (P + 1) 0 = e) := ⟨_, rfl⟩
        rw [he.out] at hck2 hel hrw
        have hwe : IntKind.u64.wrap (e : Int) = (e : Int) := by rw [IntKind.wrap_u64]; omega
        have hor := or_words d e hdl hel
        have hcI : (P : Int) + 1 < (n : Int) := by omega
        obtain ⟨T, hT⟩ : ∃ T, Hid (d + 4294967296 * e = T) := ⟨_, rfl⟩
        rw [hT.out] at hor hrw
        have hsh : IntKind.u32.wrap ((T : Int) / 2 ^ s) = (r : Int) := by
          rw [IntKind.wrap_u32, show ((T : Int) / 2 ^ s) = ((T / 2 ^ s : Nat) : Int) by rw [Int.natCast_ediv, Int.natCast_pow]; rfl]
          omega
        clear hdl hel hrw
        go_wp2
        refine ⟨⟨k + 1, by omega, by go_num, (HF.out.1.set k _).congr (fun j _ => HROW.out j), Below.setCell HF.out.2 (Nat.le_refl _) _⟩, ?_⟩
        simp [intOf]; omega
      · have he : L.getD (P + 1) 0 = 0 := by
          have hn' : ¬ P + 1 < L.length := by rw [hnl.out]; exact hc
          simp [List.getD, hn']
        rw [he, Nat.mul_zero, Nat.add_zero] at hrw
        have hcI : (n : Int) ≤ (P : Int) + 1 := by omega
        have hsh : IntKind.u32.wrap ((d : Int) / 2 ^ s) = (r : Int) := by
          rw [IntKind.wrap_u32, show ((d : Int) / 2 ^ s) = ((d / 2 ^ s : Nat) : Int) by rw [Int.natCast_ediv, Int.natCast_pow]; rfl]
          omega
        clear hdl hel hrw he
        go_wp2
        refine ⟨⟨k + 1, by omega, by go_num, (HF.out.1.set k _).congr (fun j _ => HROW.out j), Below.setCell HF.out.2 (Nat.le_refl _) _⟩, ?_⟩
        simp [intOf]; omega
    · have hkn' : k = M := by omega
      subst hkn'
      have HL := hid (show ((List.range k).map (rWord L q s)).length = k by rw [List.length_map, List.length_range])
      have HR2 : Hid (wr.rowIs w.heap.size 45 k (fun j => .int .u32 (rWord L q s j))) := HR.out.congr (fun j hj => by rw [if_pos hj])
      have HCUT := hid (bcut_any ((List.range k).map (rWord L q s)) (some ⟨w.heap.size, 0, none⟩) k wr (row_mag wr _ k _ _ HR2.out) (by rw [HL.out]; exact Nat.le_refl _) (by rw [HL.out]; have := HMN.out; omega))
      rw [HL.out] at HCUT
      clear HR
      go_wp2_with fail
      refine HCUT.out.mono ?_
      rintro r w1 ⟨⟨j, hj, rfl, hv, he⟩, rfl⟩
      have hDo : DigL ((List.range k).map (rWord L q s)) := by
        intro d hd
        obtain ⟨i, _, rfl⟩ := List.mem_map.1 hd
        exact Nat.mod_lt _ (by decide)
      obtain ⟨hcan, hlen⟩ := can_take _ j (by rw [HL.out]; exact hj) he
      have HF : Hid (MagOkF w.heap.size (natL L / 2 ^ (32 * q + s)) n (.returned (.slice (some ⟨w.heap.size, 0, none⟩) j k)) w1) := by
        refine ⟨((List.range k).map (rWord L q s)).take j, _, k, by rw [hlen], by rw [hlen]; exact hj, by rw [hlen]; have := HMN.out; omega, (row_mag w1 _ k _ _ HR2.out).take j, hDo.take j, hcan, ?_, fun p hp => by cases hp; exact Nat.le_refl _⟩
        rw [hv, natF_list]
        exact right_val L hD q s k (by rw [hnl.out]; have := HMN.out; omega)
      clear hv he hcan hlen hDo hj
      go_wp2
      go_ret
      exact ⟨HF.out, HBW.out⟩
theorem right_anyF (L : List Nat) (a : Option Addr) (cap q s : Nat) (w : World) (hm : MagAt w a L) (hs : s < 32) (hq : q ≤ 1000000) (hn : L.length ≤ 1000000) (hD : DigL L) :
    Calls Tryz.prog 71 #[.slice a L.length cap, .int .u64 ((32 * q + s : Nat) : Int)] w fun r w' => MagOkF w.heap.size (natL L / 2 ^ (32 * q + s)) L.length r w' ∧ Below w.heap.size w w' := by
  by_cases h0 : q < L.length
  · obtain ⟨b, off, rfl, hb, _⟩ := hm 0 (by omega)
    refine right_loopF L b off cap q s w hb (fun i hi => ?_) h0 hs hq hn hD
    obtain ⟨b', off', e, _, hc⟩ := hm i hi
    cases e
    exact hc
  · refine (right_nil a L.length cap q s w hs hq (by omega)).mono ?_
    rintro r w' ⟨rfl, rfl⟩
    refine ⟨?_, Below.refl _ _⟩
    have e : natL L / 2 ^ (32 * q + s) = 0 := by
      rw [Nat.pow_add, ← pow32, ← Nat.div_div_eq_div_mul, natL_div L hD, List.drop_eq_nil_of_le (by omega)]
      exact Nat.zero_div _
    rw [e]
    exact ⟨[], none, 0, rfl, Nat.zero_le _, Nat.zero_le _, fun _ hi => absurd hi (Nat.not_lt_zero _), fun _ hd => absurd hd List.not_mem_nil, fun h => absurd rfl h, rfl, fun p hp => by cases hp⟩
theorem put_anyF (z : Nat) (neg neg0 : Bool) (a a0 : Option Addr) (n0 cap cap0 : Nat) (L : List Nat) (w : World) (hz : w.heap[z]? = some (.cells #[.bool neg0, .slice a0 n0 cap0] 57)) (hm : MagAt w a L) (hD : DigL L) (hcap : L.length ≤ cap) (hn : L.length ≤ 1099511627776) (B : Nat) (hF : ∀ p, a = some p → B ≤ p.block) :
    Calls Tryz.prog 66 #[.pointer (some ⟨z, 0, none⟩), .bool neg, .slice a L.length cap] w fun r w' => r = .returned (.pointer (some ⟨z, 0, none⟩)) ∧ ∃ L', natL L' = natL L ∧ L'.length ≤ L.length ∧ BigAtF B w' z (neg && decide (natL L ≠ 0)) L' ∧ But z w w' := by
  obtain ⟨c0, c1, hf, hlt⟩ := int_cells hz
  -- how many words are left is a number of the list's own
  obtain ⟨k, hk, hv, he⟩ : ∃ k, k ≤ L.length ∧ natL (L.take k) = natL L ∧ EndOk L k := by
    have : ∀ j, j ≤ L.length → natL (L.take j) = natL L → ∃ k, k ≤ L.length ∧ natL (L.take k) = natL L ∧ EndOk L k := by
      intro j
      induction j with
      | zero => exact fun h1 h2 => ⟨0, h1, h2, fun c => absurd rfl c⟩
      | succ j ih =>
        intro h1 h2
        by_cases hd : L.getD j 0 = 0
        · exact ih (by omega) ((natL_take_zero L j (by omega) hd).symm.trans h2)
        · exact ⟨j + 1, h1, h2, fun _ => hd⟩
    exact this L.length (Nat.le_refl _) (by rw [List.take_length])
  have hcut : Calls Tryz.prog 90 #[.slice a L.length cap] w fun r w' => r = .returned (.slice a k cap) ∧ w' = w := by
    refine (bcut_any L a cap w hm hcap hn).mono ?_
    rintro r w' ⟨⟨k', hk', rfl, hv', he'⟩, rfl⟩
    exact ⟨by rw [end_unique L k' k hD hk' hk hv' hv he' he], rfl⟩
  obtain ⟨hcan, hlen⟩ := can_take L k hk he
  refine (put_core z k neg a L.length cap w _ _ c0 c1 hf hcut).mono ?_
  rintro r w' ⟨rfl, rfl⟩
  have hbut : But z w ((w.setCell ⟨z, 1, none⟩ (.slice a k cap)).setCell ⟨z, 0, none⟩ (.bool (neg && decide (0 < k)))) := ((But.refl z w).setCell 1 _).setCell 0 _
  refine ⟨rfl, L.take k, hv, by rw [hlen]; exact hk, ⟨a, cap, ?_, by rw [hlen]; omega, (hm.take k).but hbut (fun b off e h0 => ?_), hD.take k, hcan, fun h0 => ?_, hF⟩, hbut⟩
  · have hbo : (neg && decide (natL L ≠ 0)) = (neg && decide (0 < k)) := by
      congr 1
      rw [decide_eq_decide, ← hv]
      rw [Ne, natL_zero _ hcan, ← List.length_eq_zero_iff, hlen]
      omega
    rw [hlen, hbo]
    simp [World.setCell, Array.getElem?_modify, hz]
  · obtain ⟨b', off', e', hne⟩ := mag_ne hz (hm.take k) h0
    rw [e] at e'
    cases e'
    exact hne
  · have : natL L = 0 := by rw [← hv, h0]; rfl
    rw [this]
    simp
theorem put_isF (z : Nat) (neg : Bool) (v bound : Nat) (w w1 : World) (L' : List Nat) (a' : Option Addr) (cap' : Nat) (hz : ZOk z w w1) (hM : MagIsF w.heap.size v bound L' a' cap' w1) (hbd : bound ≤ 1099511627776) :
    Calls Tryz.prog 66 #[.pointer (some ⟨z, 0, none⟩), .bool neg, .slice a' L'.length cap'] w1 fun r w' => r = .returned (.pointer (some ⟨z, 0, none⟩)) ∧ ∃ L', natL L' = v ∧ L'.length ≤ bound ∧ BigAtF w.heap.size w' z (neg && decide (v ≠ 0)) L' ∧ But z w w' := by
  obtain ⟨h1, h2, h3, h4, h5, h6, h7⟩ := hM
  obtain ⟨hb, neg0, a0, n0, cap0, ho⟩ := hz
  have := put_anyF z neg neg0 a' a0 n0 cap' cap0 L' w1 ho h3 h4 h1 (by omega) w.heap.size h7
  refine this.mono ?_
  rintro r w' ⟨rfl, M, e1, e2, e3, e4⟩
  exact ⟨rfl, M, e1.trans h6, by omega, by rw [← h6]; exact e3, hb.trans e4⟩
set_option maxHeartbeats 1000000 in
theorem Rsh_posF (z x : Nat) (q s : Nat) (L : List Nat) (w : World) (hz : ZOk z w w) (hx : BigAt w x false L) (hs : s < 32) (hq : q ≤ 1000000) (hn : L.length ≤ 1000000) :
    Calls Tryz.prog 46 #[.pointer (some ⟨z, 0, none⟩), .pointer (some ⟨x, 0, none⟩), .int .u64 ((32 * q + s : Nat) : Int)] w fun r w' => r = .returned (.pointer (some ⟨z, 0, none⟩)) ∧ PutIsF w.heap.size z false (natL L / 2 ^ (32 * q + s)) L.length w w' := by
  obtain ⟨a, cap, ho, hcap, hm, hd, hc, hneg⟩ := hx
  obtain ⟨c0, c1, hf, hlt⟩ := int_cells ho
  have HL : Hid (Calls Tryz.prog 71 #[.slice a L.length cap, .int .u64 ((32 * q + s : Nat) : Int)] w fun r w1 => ∃ L' a' cap', r = .returned (.slice a' L'.length cap') ∧ Hid (MagIsF w.heap.size (natL L / 2 ^ (32 * q + s)) L.length L' a' cap' w1) ∧ Hid (ZOk z w w1)) := by
    refine (right_anyF L a cap q s w hm hs hq hn hd).mono ?_
    rintro r w1 ⟨⟨L', a', cap', hr, h1⟩, hb1⟩
    exact ⟨L', a', cap', hr, h1, ZOk.below hz hb1⟩
  obtain ⟨v, hv⟩ : ∃ v, Hid (natL L / 2 ^ (32 * q + s) = v) := ⟨_, rfl⟩
  obtain ⟨n, hnl⟩ : ∃ n, Hid (L.length = n) := ⟨_, rfl⟩
  rw [hv.out] at HL ⊢
  rw [hnl.out] at HL c1 hn ⊢
  have HP : Hid (∀ w1 L' a' cap', Hid (ZOk z w w1) → Hid (MagIsF w.heap.size v n L' a' cap' w1) → Calls Tryz.prog 66 #[.pointer (some ⟨z, 0, none⟩), .bool false, .slice a' L'.length cap'] w1 fun r w' => r = .returned (.pointer (some ⟨z, 0, none⟩)) ∧ Hid (PutIsF w.heap.size z false v n w w')) := by
    intro w1 L' a' cap' h1 h2
    exact put_isF z false v n w w1 L' a' cap' h1.out h2.out (by omega)
  obtain ⟨N, hN⟩ : ∃ N : Int, Hid (((32 * q + s : Nat) : Int) = N) := ⟨_, rfl⟩
  rw [hN.out] at HL ⊢
  clear hz hs hq hn hm hd hc hneg ho hcap hf
  go_enter Tryz.func46, Tryz.ntmps46
  go_wp2_with fail
  refine HL.out.mono ?_
  rintro r w1 ⟨L', a', cap', rfl, HM, HZ1⟩
  go_wp2_with fail
  refine (HP.out _ _ _ _ HZ1 HM).mono ?_
  rintro r w2 ⟨rfl, HE⟩
  go_wp2
  go_ret
  exact ⟨rfl, HE.out⟩
/-- A number not below 0 at a block, its words from block B on. -/
def NatF (B : Nat) (w : World) (x v bd : Nat) : Prop := ∃ L, natL L = v ∧ L.length ≤ bd ∧ BigAtF B w x false L
theorem NatF.num {B x v bd : Nat} {w : World} (h : NatF B w x v bd) : NumAt w x (v : Int) bd := by
  obtain ⟨L, h1, h2, a, cap, k1, k2, k3, k4, k5, k6, k7⟩ := h
  exact ⟨false, L, by unfold intL; rw [if_neg (by decide), h1], h2, a, cap, k1, k2, k3, k4, k5, k6⟩
theorem NRshF (x v n bd : Nat) (w : World) (hx : NumAt w x (v : Int) bd) (hb : bd ≤ 900000) (hn : n ≤ 30000000) :
    Calls Tryz.prog 46 #[.pointer (some ⟨x, 0, none⟩), .pointer (some ⟨x, 0, none⟩), .int .u64 n] w fun r w' => r = .returned (.pointer (some ⟨x, 0, none⟩)) ∧ NatF w.heap.size w' x (v / 2 ^ n) bd ∧ But x w w' := by
  have hz : ZOk x w w := hx.zok
  obtain ⟨L, h1, hL, hB⟩ := num_pos hx
  have := Rsh_posF x x (n / 32) (n % 32) L w hz hB (Nat.mod_lt _ (by decide)) (by omega) (by omega)
  rw [show 32 * (n / 32) + n % 32 = n by omega, h1] at this
  refine this.mono ?_
  rintro r w' ⟨rfl, L', e1, e2, e3, e4⟩
  exact ⟨rfl, ⟨L', e1, by omega, e3⟩, e4⟩
end Go.Proofs.YtphdinjmkhefmaaGreatDoor
