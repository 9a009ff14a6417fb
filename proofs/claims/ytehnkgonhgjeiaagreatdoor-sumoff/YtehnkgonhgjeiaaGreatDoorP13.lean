
/- What the document's Lsh does, where a number is shifted itself. -/
import Derived.Test.YtehnkgonhgjeiaaGreatDoorP9
import Derived.Deep.RegionWith
namespace Go.Proofs.YtehnkgonhgjeiaaGreatDoor
open Go.RowKit Go.IntWalk

set_option maxHeartbeats 1000000 in
theorem Lsh_self (z : Nat) (neg : Bool) (q s : Nat) (L : List Nat) (w : World) (hz : ZOk z w w) (hx : BigAt w z neg L) (hs : s < 32) (hq : q ≤ 1000000) (hn : L.length ≤ 1000000) :
    Calls Tryz.prog 126 #[.pointer (some ⟨z, 0, none⟩), .pointer (some ⟨z, 0, none⟩), .int .u64 ((32 * q + s : Nat) : Int)] w fun r w' => r = .returned (.pointer (some ⟨z, 0, none⟩)) ∧ PutIs z neg (natL L * 2 ^ (32 * q + s)) (q + L.length + 1) w w' := by
  obtain ⟨a, cap, ho, hcap, hm, hd, hc, hneg⟩ := hx
  obtain ⟨c0, c1, hf, hlt⟩ := int_cells ho
  have HL : Hid (∀ w', Below w.heap.size w w' → Calls Tryz.prog 158 #[.slice a L.length cap, .int .u64 ((32 * q + s : Nat) : Int)] w' fun r w1 => ∃ L' a' cap', r = .returned (.slice a' L'.length cap') ∧ Hid (MagIs (natL L * 2 ^ (32 * q + s)) (q + L.length + 1) L' a' cap' w1) ∧ Hid (ZOk z w w1) ∧ w1.cell? ⟨z, 0, none⟩ = some (.bool neg) ∧ w1.cell? ⟨z, 1, none⟩ = some (.slice a L.length cap)) := by
    intro w' hb
    refine (left_any L a cap q s w' (hm.but (But.of_below (z := w.heap.size) hb) ?_) hs hq hn hd).mono ?_
    · intro b1 off1 e h0 hbz
      obtain ⟨b2, off2, e2, hlt2, _⟩ := hm 0 (by omega)
      rw [e] at e2
      cases e2
      omega
    · rintro r w1 ⟨⟨L', a', cap', hr, h1⟩, hb1⟩
      have hb2 := bl_then hb hb1
      exact ⟨L', a', cap', hr, h1, ZOk.below hz hb2, by rw [hb2.cell (p := ⟨z, 0, none⟩) hlt]; exact c0, by rw [hb2.cell (p := ⟨z, 1, none⟩) hlt]; exact c1⟩
  have HN : Hid ((neg && decide (natL L * 2 ^ (32 * q + s) ≠ 0)) = neg) := by
    cases neg
    · rfl
    · have hne : L ≠ [] := fun c => by have := hneg c; simp at this
      have h1 : natL L ≠ 0 := fun c => hne ((natL_zero L hc).1 c)
      have h2 : 0 < natL L * 2 ^ (32 * q + s) := Nat.mul_pos (by omega) (Nat.two_pow_pos _)
      show (true && _) = true
      rw [Bool.true_and, decide_eq_true_eq]
      omega
  obtain ⟨v, hv⟩ : ∃ v, Hid (natL L * 2 ^ (32 * q + s) = v) := ⟨_, rfl⟩
  obtain ⟨bd, hbd⟩ : ∃ bd, Hid (q + L.length + 1 = bd) := ⟨_, rfl⟩
  rw [hv.out] at HL HN ⊢
  rw [hbd.out] at HL ⊢
  have HP : Hid (∀ w1 L' a' cap', Hid (ZOk z w w1) → Hid (MagIs v bd L' a' cap' w1) → Calls Tryz.prog 119 #[.pointer (some ⟨z, 0, none⟩), .bool neg, .slice a' L'.length cap'] w1 fun r w' => r = .returned (.pointer (some ⟨z, 0, none⟩)) ∧ Hid (PutIs z neg v bd w w') ∧ Hid (ZOk z w w')) := by
    intro w1 L' a' cap' h1 h2
    refine (put_is z neg v bd w w1 L' a' cap' h1.out h2.out (by have := hbd.out; omega)).mono ?_
    rintro r w' ⟨rfl, L', e1, e2, e3, e4⟩
    rw [HN.out] at e3
    exact ⟨rfl, ⟨L', e1, e2, e3, e4⟩, ZOk.big h1.out e4 e3⟩
  have HZ : Hid (Below w.heap.size w w.drew) := (Below.refl _ _).drew
  obtain ⟨N, hN⟩ : ∃ N : Int, Hid (((32 * q + s : Nat) : Int) = N) := ⟨_, rfl⟩
  rw [hN.out] at HL ⊢
  obtain ⟨n, hnl⟩ : ∃ n, Hid (L.length = n) := ⟨_, rfl⟩
  rw [hnl.out] at HL c1
  clear hz hs hq hn hm hd hc hneg ho hcap hf
  go_enter Tryz.func126, Tryz.ntmps126
  go_wp2_with fail
  go_region_with (first
      | (go_at_call 158; refine (HL.out _ HZ.out).mono ?_; rintro r w1 ⟨L', a', cap', rfl, HM, HZ1, k0, k1⟩)
      | (go_at_call 119; refine (HP.out _ _ _ _ (by assumption) (by assumption)).mono ?_; rintro r w1 ⟨rfl, HE, HZ2⟩))
  all_goals go_wp2
  all_goals go_ret
  all_goals exact ⟨rfl, Hid.out (by assumption)⟩
end Go.Proofs.YtehnkgonhgjeiaaGreatDoor

namespace Go.Proofs.YtehnkgonhgjeiaaGreatDoor
open Go.RowKit Go.IntWalk

set_option maxHeartbeats 400000 in
theorem SetInt64_pos (z : Nat) (neg0 : Bool) (a0 : Option Addr) (n0 cap0 n : Nat) (w : World) (hz : w.heap[z]? = some (.cells #[.bool neg0, .slice a0 n0 cap0] 90)) (hn0 : n < 9223372036854775808) :
    Calls Tryz.prog 132 #[.pointer (some ⟨z, 0, none⟩), .int .i64 n] w fun r w' => r = .returned (.pointer (some ⟨z, 0, none⟩)) ∧ ∃ L', natL L' = n ∧ L'.length ≤ 2 ∧ BigAt w' z false L' ∧ But z w w' := by
  have hlt := (int_cells hz).2.2.2
  have hn : n < 18446744073709551616 := by omega
  have hwn : IntKind.u64.wrap (n : Int) = (n : Int) := by rw [IntKind.wrap_u64]; omega
  have hnn : ¬ (n : Int) < 0 := by omega
  have HW := hid (words_any n w hn)
  have HP : Hid (∀ T, Calls Tryz.prog 119 #[.pointer (some ⟨z, 0, none⟩), .bool false, .slice (some ⟨w.heap.size, 0, none⟩) (numW n) 2] (w.alloc (.cells #[.int .u32 (loW n), .int .u32 (hiW n)] T)) fun r w' => r = .returned (.pointer (some ⟨z, 0, none⟩)) ∧ ∃ L', natL L' = n ∧ L'.length ≤ 2 ∧ BigAt w' z false L' ∧ But z w w') := by
    intro T
    have hk : numW n ≤ 2 := by unfold numW; split <;> (try split) <;> omega
    have hlen : ([loW n, hiW n].take (numW n)).length = numW n := by rw [List.length_take]; exact Nat.min_eq_left hk
    have hm2 : MagAt (w.alloc (.cells #[.int .u32 (loW n), .int .u32 (hiW n)] T)) (some ⟨w.heap.size, 0, none⟩) [loW n, hiW n] := by
      intro i hi
      refine ⟨w.heap.size, 0, rfl, by simp, ?_⟩
      rcases (show i = 0 ∨ i = 1 by simp at hi; omega) with rfl | rfl
      · simp [go_sem]
      · simp [go_sem]
    have hb : But z w (w.alloc (.cells #[.int .u32 (loW n), .int .u32 (hiW n)] T)) := But.of_below ((Below.refl _ _).alloc (Nat.le_refl _) _)
    have hz2 : (w.alloc (.cells #[.int .u32 (loW n), .int .u32 (hiW n)] T)).heap[z]? = some (.cells #[.bool neg0, .slice a0 n0 cap0] 90) := by
      rw [((Below.refl w.heap.size w).alloc (Nat.le_refl _) _).block z hlt]; exact hz
    have := put_any z false neg0 (some ⟨w.heap.size, 0, none⟩) a0 n0 2 cap0 ([loW n, hiW n].take (numW n)) _ hz2 (hm2.take _) ((words_dig n hn).take _) (by rw [hlen]; exact hk) (by rw [hlen]; omega)
    rw [hlen] at this
    refine this.mono ?_
    rintro r w' ⟨rfl, L', e1, e2, e3, e4⟩
    refine ⟨rfl, L', by rw [e1]; exact (natL_words n).2, by omega, ?_, hb.trans e4⟩
    simpa using e3
  clear hz hn hn0
  go_enter Tryz.func132, Tryz.ntmps132
  go_wp2_with fail
  refine HW.out.mono ?_
  rintro r w1 ⟨rfl, T', rfl⟩
  go_wp2_with fail
  refine (HP.out T').mono ?_
  rintro r w2 ⟨rfl, hE⟩
  have HE := hid hE
  clear hE
  go_wp2
  go_ret
  exact ⟨rfl, HE.out⟩
set_option maxHeartbeats 400000 in
theorem NewInt_pos (n : Nat) (w : World) (hn : n < 9223372036854775808) :
    Calls Tryz.prog 82 #[.int .i64 n] w fun r w' => r = .returned (.pointer (some ⟨w.heap.size, 0, none⟩)) ∧ ∃ L', natL L' = n ∧ L'.length ≤ 2 ∧ BigAt w' w.heap.size false L' ∧ Below w.heap.size w w' := by
  have HS : Hid (∀ w', w' = w.alloc (.cells #[.bool false, .slice none 0 0] 90) → Calls Tryz.prog 132 #[.pointer (some ⟨w.heap.size, 0, none⟩), .int .i64 n] w' fun r w'' => r = .returned (.pointer (some ⟨w.heap.size, 0, none⟩)) ∧ Hid (∃ L', natL L' = n ∧ L'.length ≤ 2 ∧ BigAt w'' w.heap.size false L' ∧ Below w.heap.size w w'')) := by
    rintro w' rfl
    refine (SetInt64_pos w.heap.size false none 0 0 n _ (by show (w.heap.push _)[w.heap.size]? = _; rw [Array.getElem?_push_size]) hn).mono ?_
    rintro r w'' ⟨rfl, L', e1, e2, e3, e4⟩
    refine ⟨rfl, L', e1, e2, e3, ?_⟩
    have h1 : Below w.heap.size w (w.alloc (.cells #[.bool false, .slice none 0 0] 90)) := (Below.refl _ _).alloc (Nat.le_refl _) _
    exact h1.trans (e4.below h1.size (Nat.le_refl _))
  clear hn
  go_enter Tryz.func82, Tryz.ntmps82
  go_wp2_with fail
  refine (HS.out _ rfl).mono ?_
  rintro r w1 ⟨rfl, HE⟩
  go_wp2
  go_ret
  exact ⟨rfl, HE.out⟩
end Go.Proofs.YtehnkgonhgjeiaaGreatDoor

namespace Go.Proofs.YtehnkgonhgjeiaaGreatDoor
open Go.RowKit Go.IntWalk

/-- What holds ahead of the k-th round of plus. -/
def PInv (A B : List Nat) (o : Nat → Nat) (c k : Nat) : Prop := natF o k + 4294967296 ^ k * c = natL (A.take k) + natL (B.take k) ∧ c ≤ 1 ∧ ∀ j, o j < 4294967296
theorem natL_take_any (B : List Nat) (k : Nat) : natL (B.take (k + 1)) = natL (B.take k) + 4294967296 ^ k * B.getD k 0 := by
  by_cases h : k < B.length
  · exact natL_take_succ B k h
  · rw [List.take_of_length_le (by omega), List.take_of_length_le (by omega)]
    simp [List.getD, h]
theorem PInv.step {A B : List Nat} {o : Nat → Nat} {c k : Nat} (h : PInv A B o c k) (hA : DigL A) (hB : DigL B) : PInv A B (fun j => if j = k then (A.getD k 0 + c + B.getD k 0) % 4294967296 else o j) ((A.getD k 0 + c + B.getD k 0) / 4294967296) (k + 1) := by
  obtain ⟨h1, h2, h3⟩ := h
  have ha := hA.get k
  have hb := hB.get k
  refine ⟨?_, by omega, fun j => ?_⟩
  · rw [natL_take_any, natL_take_any]
    show natF _ k + 4294967296 ^ k * (if k = k then _ else o k) + _ = _
    rw [if_pos rfl, natF_congr _ o k (fun j hj => if_neg (by omega)), Nat.pow_succ]
    have e := Nat.div_add_mod (A.getD k 0 + c + B.getD k 0) 4294967296
    obtain ⟨Q, hQ⟩ : ∃ Q, (A.getD k 0 + c + B.getD k 0) / 4294967296 = Q := ⟨_, rfl⟩
    obtain ⟨R, hR⟩ : ∃ R, (A.getD k 0 + c + B.getD k 0) % 4294967296 = R := ⟨_, rfl⟩
    rw [hQ, hR] at e ⊢
    have e2 : 4294967296 ^ k * (4294967296 * Q + R) = 4294967296 ^ k * (A.getD k 0 + c + B.getD k 0) := by rw [e]
    rw [Nat.mul_add, Nat.mul_add, Nat.mul_add, ← Nat.mul_assoc] at e2
    omega
  · show (if j = k then _ else o j) < _
    split
    · exact Nat.mod_lt _ (by decide)
    · exact h3 j
theorem row_if (o : Nat → Nat) (k v j : Nat) : (if j = k then Value.int .u32 (v : Int) else Value.int .u32 (o j : Int)) = Value.int .u32 (((if j = k then v else o j) : Nat) : Int) := by
  by_cases c : j = k
  · rw [if_pos c, if_pos c]
  · rw [if_neg c, if_neg c]
set_option maxRecDepth 4000 in
set_option maxHeartbeats 1000000 in
theorem plus_loop (A B : List Nat) (a b : Option Addr) (ca cb : Nat) (w : World) (hA : MagAt w a A) (hB : MagAt w b B) (dA : DigL A) (dB : DigL B) (hl : B.length ≤ A.length) (hn : A.length ≤ 1000000) :
    Calls Tryz.prog 122 #[.slice a A.length ca, .slice b B.length cb] w fun r w' => MagOk (natL A + natL B) (A.length + 1) r w' ∧ Below w.heap.size w w' := by
  have HA := hid hA
  have HB := hid hB
  obtain ⟨n, hnl⟩ : ∃ n, Hid (A.length = n) := ⟨_, rfl⟩
  obtain ⟨m, hml⟩ : ∃ m, Hid (B.length = m) := ⟨_, rfl⟩
  rw [hnl.out] at hn hl ⊢
  rw [hml.out] at hl ⊢
  have hlI : ¬ (n : Int) < (m : Int) := by omega
  obtain ⟨M, hM⟩ : ∃ M, Hid (n + 1 = M) := ⟨_, rfl⟩
  have hM1 : IntKind.i64.wrap ((n : Int) + 1) = (M : Int) := by have := hM.out; rw [IntWalk.i64_in _ (by omega)]; omega
  have hM2 : (n : Int) + 1 = (M : Int) := by have := hM.out; omega
  have hmk := run_make_row' (P := Tryz.prog) 39 92 (.int .u32 0) 4 Tryz.underlying39 infoU rfl .i64 .i64 M (by have := hM.out; omega) (by have := hM.out; omega)
  rw [hM.out]
  clear hA hB
  go_enter Tryz.func122, Tryz.ntmps122
  go_wp2
  go_loopw [7, 8] (fun cv i wr => ∃ (k c : Nat) (o : Nat → Nat), k ≤ n ∧ cv = .int .u64 c ∧ i = .int .i64 k ∧ Hid (wr.rowIs w.heap.size 92 M (fun j => .int .u32 (o j))) ∧ Hid (PInv A B o c k) ∧ Hid (Below w.heap.size w wr)) (fun _ i _ => n - (intOf i).toNat)
  case atStart => exact ⟨0, 0, fun _ => 0, Nat.zero_le _, rfl, rfl, World.rowIs_made w (.int .u32 0) M _, ⟨rfl, by decide, fun _ => (show 0 < 4294967296 by decide)⟩, (Below.refl _ _).alloc (Nat.le_refl _) _⟩
  case round =>
    obtain ⟨k, c, o, hkn, rfl, rfl, HR, HI, HBW⟩ := hrel
    by_cases hlt : k < n
    · obtain ⟨ba, oa, rfl, hba, hca0⟩ := HA.out k (by rw [hnl.out]; exact hlt)
      have hca : wr.cell? ⟨ba, oa + k, none⟩ = some (.int .u32 (A.getD k 0)) := by
        rw [HBW.out.cell (p := ⟨ba, oa + k, none⟩) hba]
        exact hca0
      have hda := dA.get k
      have hdb := dB.get k
      have hc1 := HI.out.2.1
      have HST := hid (HI.out.step dA dB)
      have fx := HR.out.frozen
      have hlt2 := HR.out.lt
      have hkM : k < M := by have := hM.out; omega
      have hkMI : (k : Int) < (M : Int) := by omega
      have hknI : (k : Int) < (n : Int) := by omega
      have cx := HR.out.cell (i := k) hkM
      obtain ⟨x, hx⟩ : ∃ x, Hid (A.getD k 0 = x) := ⟨_, rfl⟩
      obtain ⟨y, hy⟩ : ∃ y, Hid (B.getD k 0 = y) := ⟨_, rfl⟩
      rw [hx.out] at hca hda HST
      rw [hy.out] at hdb HST
      have hwx : IntKind.u64.wrap (x : Int) = (x : Int) := by rw [IntKind.wrap_u64]; omega
      have hwy : IntKind.u64.wrap (y : Int) = (y : Int) := by rw [IntKind.wrap_u64]; omega
      have hs1 : IntKind.u64.wrap ((x : Int) + (c : Int)) = ((x + c : Nat) : Int) := by rw [IntKind.wrap_u64]; omega
      have hs2 : IntKind.u64.wrap (((x + c : Nat) : Int) + (y : Int)) = ((x + c + y : Nat) : Int) := by rw [IntKind.wrap_u64]; omega
      clear hca0 hba
      by_cases hkm : k < m
      · obtain ⟨bb, ob, rfl, hbb, hcb0⟩ := HB.out k (by rw [hml.out]; exact hkm)
        have hcb : wr.cell? ⟨bb, ob + k, none⟩ = some (.int .u32 (B.getD k 0)) := by
          rw [HBW.out.cell (p := ⟨bb, ob + k, none⟩) hbb]
          exact hcb0
        rw [hy.out] at hcb
        have hkmI : (k : Int) < (m : Int) := by omega
        obtain ⟨S1, hS1⟩ : ∃ S1, Hid (x + c = S1) := ⟨_, rfl⟩
        rw [hS1.out] at hs1 hs2 HST
        obtain ⟨S2, hS2⟩ : ∃ S2, Hid (S1 + y = S2) := ⟨_, rfl⟩
        rw [hS2.out] at hs2 HST
        have hS2b : S2 ≤ 8589934591 := by have := hS1.out; have := hS2.out; omega
        have hlo : IntKind.u32.wrap (S2 : Int) = ((S2 % 4294967296 : Nat) : Int) := by rw [IntKind.wrap_u32]; omega
        have hhi : (S2 : Int) / 4294967296 = ((S2 / 4294967296 : Nat) : Int) := by omega
        obtain ⟨lo, hlo'⟩ : ∃ lo, Hid (S2 % 4294967296 = lo) := ⟨_, rfl⟩
        obtain ⟨hi, hhi'⟩ : ∃ hi, Hid (S2 / 4294967296 = hi) := ⟨_, rfl⟩
        rw [hlo'.out] at hlo HST
        rw [hhi'.out] at hhi HST
        clear hcb0 hbb hda hdb hc1 hS2b
        go_wp2
        refine ⟨⟨k + 1, hi, _, by omega, rfl, by go_num, (HR.out.set k _).congr (fun j _ => row_if o k lo j), HST, Below.setCell HBW.out (Nat.le_refl _) _⟩, ?_⟩
        simp [intOf]; omega
      · have hy0 : y = 0 := by
          rw [← hy.out]
          have hn' : ¬ k < B.length := by rw [hml.out]; exact hkm
          simp [List.getD, hn']
        have hkmI : ¬ (k : Int) < (m : Int) := by omega
        rw [hy0, Nat.add_zero] at HST
        obtain ⟨S2, hS2⟩ : ∃ S2, Hid (x + c = S2) := ⟨_, rfl⟩
        rw [hS2.out] at hs1 HST
        have hS2b : S2 ≤ 8589934591 := by have := hS2.out; omega
        have hlo : IntKind.u32.wrap (S2 : Int) = ((S2 % 4294967296 : Nat) : Int) := by rw [IntKind.wrap_u32]; omega
        have hhi : (S2 : Int) / 4294967296 = ((S2 / 4294967296 : Nat) : Int) := by omega
        obtain ⟨lo, hlo'⟩ : ∃ lo, Hid (S2 % 4294967296 = lo) := ⟨_, rfl⟩
        obtain ⟨hi, hhi'⟩ : ∃ hi, Hid (S2 / 4294967296 = hi) := ⟨_, rfl⟩
        rw [hlo'.out] at hlo HST
        rw [hhi'.out] at hhi HST
        clear hda hdb hc1 hS2b hs2 hy0 hy hwy
        go_wp2
        refine ⟨⟨k + 1, hi, _, by omega, rfl, by go_num, (HR.out.set k _).congr (fun j _ => row_if o k lo j), HST, Below.setCell HBW.out (Nat.le_refl _) _⟩, ?_⟩
        simp [intOf]; omega
    · have hkn' : k = n := by omega
      subst hkn'
      have hc1 := HI.out.2.1
      have fx := HR.out.frozen
      have hlt2 := HR.out.lt
      have hkM : k < M := by have := hM.out; omega
      have hkMI : (k : Int) < (M : Int) := by omega
      have cx := HR.out.cell (i := k) hkM
      have hwc : IntKind.u32.wrap (c : Int) = (c : Int) := by rw [IntKind.wrap_u32]; omega
      obtain ⟨p, hp⟩ : ∃ p : Nat → Nat, Hid (p = fun j => if j = k then c else o j) := ⟨_, rfl⟩
      have HR2 : Hid ((wr.setCell ⟨w.heap.size, k, none⟩ (.int .u32 (c : Int))).rowIs w.heap.size 92 M (fun j => .int .u32 (p j))) := by
        rw [hp.out]
        exact (HR.out.set k _).congr (fun j _ => row_if o k c j)
      have HBW2 : Hid (Below w.heap.size w (wr.setCell ⟨w.heap.size, k, none⟩ (.int .u32 (c : Int)))) := Below.setCell HBW.out (Nat.le_refl _) _
      have HV : Hid (natF p M = natL A + natL B ∧ ∀ j, p j < 4294967296) := by
        obtain ⟨i1, i2, i3⟩ := HI.out
        rw [← hM.out, hp.out]
        refine ⟨?_, fun j => ?_⟩
        · show natF _ k + 4294967296 ^ k * (if k = k then c else o k) = _
          rw [if_pos rfl, natF_congr _ o k (fun j hj => if_neg (by omega)), i1]
          rw [List.take_of_length_le (by rw [hnl.out]; exact Nat.le_refl _), List.take_of_length_le (by rw [hml.out]; exact hl)]
        · show (if j = k then c else o j) < _
          split
          · omega
          · exact i3 j
      have HL := hid (show ((List.range M).map p).length = M by rw [List.length_map, List.length_range])
      have HCUT := hid (bcut_any ((List.range M).map p) (some ⟨w.heap.size, 0, none⟩) M _ (row_mag _ _ M _ p HR2.out) (by rw [HL.out]; exact Nat.le_refl _) (by rw [HL.out]; have := hM.out; omega))
      rw [HL.out] at HCUT
      clear HR HI hp hc1
      go_wp2_with fail
      refine HCUT.out.mono ?_
      rintro r w1 ⟨⟨j, hj, rfl, hv, he⟩, rfl⟩
      have hDo : DigL ((List.range M).map p) := by
        intro d hd
        obtain ⟨i, _, rfl⟩ := List.mem_map.1 hd
        exact HV.out.2 i
      obtain ⟨hcan, hlen⟩ := can_take _ j (by rw [HL.out]; exact hj) he
      have HF : Hid (MagOk (natL A + natL B) M (.returned (.slice (some ⟨w.heap.size, 0, none⟩) j M)) (wr.setCell ⟨w.heap.size, k, none⟩ (.int .u32 (c : Int)))) := by
        refine ⟨((List.range M).map p).take j, _, M, by rw [hlen], by rw [hlen]; exact hj, by rw [hlen]; exact hj, (row_mag _ _ M _ _ HR2.out).take j, hDo.take j, hcan, ?_⟩
        rw [hv, natF_list]
        exact HV.out.1
      clear hv he hcan hlen hDo hj
      go_wp2
      go_ret
      exact ⟨HF.out, HBW2.out⟩
end Go.Proofs.YtehnkgonhgjeiaaGreatDoor

namespace Go.Proofs.YtehnkgonhgjeiaaGreatDoor
open Go.RowKit Go.IntWalk

set_option maxHeartbeats 1000000 in
theorem trim_some (L : List Nat) (b off cap : Nat) (w : World) (hcell : ∀ i, i < L.length → w.cell? ⟨b, off + i, none⟩ = some (.int .u32 (L.getD i 0))) (hcap : L.length ≤ cap) (hn : L.length ≤ 1099511627776) :
    Calls Tryz.prog 112 #[.slice (some ⟨b, off, none⟩) L.length cap] w fun r w' => (∃ k, k ≤ L.length ∧ r = .returned (.slice (some ⟨b, off, none⟩) k cap) ∧ natL (L.take k) = natL L ∧ EndOk L k) ∧ w' = w := by
  have HC := hid hcell
  have hL := hid (show natL (L.take L.length) = natL L by rw [List.take_length])
  obtain ⟨n, hnl⟩ : ∃ n, Hid (L.length = n) := ⟨_, rfl⟩
  rw [hnl.out] at hn hcap hL ⊢
  clear hcell
  go_enter Tryz.func112, Tryz.ntmps112
  go_wp2
  go_loop [3] (fun v => ∃ k : Nat, k ≤ n ∧ v = .int .i64 k ∧ Hid (natL (L.take k) = natL L)) (fun v => (intOf v).toNat)
  case atStart => exact ⟨n, Nat.le_refl _, rfl, hL⟩
  case round =>
    obtain ⟨k, hkn, rfl, HA⟩ := hrel
    by_cases hk0 : k = 0
    · subst hk0
      go_wp2
      go_ret
      exact ⟨⟨0, Nat.zero_le _, rfl, HA.out, fun h => absurd rfl h⟩, rfl⟩
    · obtain ⟨j, hj⟩ : ∃ j, k = j + 1 := ⟨k - 1, by omega⟩
      subst hj
      have hck := HC.out j (by rw [hnl.out]; omega)
      have HZ := hid (natL_take_zero L j (by rw [hnl.out]; omega))
      obtain ⟨d, hd⟩ : ∃ d, Hid (L.getD j 0 = d) := ⟨_, rfl⟩
      rw [hd.out] at hck HZ
      have hcast : (((j + 1 : Nat) : Int) - 1) = (j : Int) := by omega
      have hcapj : j + 1 ≤ cap := by omega
      have hpos : ((j + 1 : Nat) : Int) > 0 := by omega
      by_cases hd0 : d = 0
      · subst hd0
        go_wp2
        exact ⟨⟨j, by omega, by go_num, (HZ.out rfl).symm.trans HA.out⟩, by simp [intOf]⟩
      · have hdb : ((d : Int) == 0) = false := by simpa using hd0
        have HD := hid hd0
        clear hd0
        go_wp2
        go_ret
        exact ⟨⟨j + 1, hkn, rfl, HA.out, fun _ => by rw [Nat.add_sub_cancel, hd.out]; exact HD.out⟩, rfl⟩
set_option maxHeartbeats 400000 in
theorem trim_none (cap : Nat) (a : Option Addr) (w : World) :
    Calls Tryz.prog 112 #[.slice a 0 cap] w fun r w' => r = .returned (.slice a 0 cap) ∧ w' = w := by
  go_enter Tryz.func112, Tryz.ntmps112
  go_wp2
  refine wp_loop_rounds 1 ?_
  rw [rounds_succ]
  go_wp2
  go_ret
  exact ⟨rfl, rfl⟩
theorem trim_any (L : List Nat) (a : Option Addr) (cap : Nat) (w : World) (h : MagAt w a L) (hcap : L.length ≤ cap) (hn : L.length ≤ 1099511627776) :
    Calls Tryz.prog 112 #[.slice a L.length cap] w fun r w' => (∃ k, k ≤ L.length ∧ r = .returned (.slice a k cap) ∧ natL (L.take k) = natL L ∧ EndOk L k) ∧ w' = w := by
  by_cases h0 : L.length = 0
  · have hl : L = [] := List.length_eq_zero_iff.1 h0
    rw [h0]
    refine (trim_none cap a w).mono ?_
    rintro r w' ⟨rfl, rfl⟩
    exact ⟨⟨0, Nat.le_refl _, rfl, by rw [hl]; rfl, fun c => absurd rfl c⟩, rfl⟩
  · obtain ⟨b, off, rfl, hb, _⟩ := h 0 (by omega)
    refine trim_some L b off cap w (fun i hi => ?_) hcap hn
    obtain ⟨b', off', e, _, hc⟩ := h i hi
    cases e
    exact hc
set_option maxHeartbeats 400000 in
theorem word_any (L : List Nat) (a : Option Addr) (cap i : Nat) (w : World) (h : MagAt w a L) :
    Calls Tryz.prog 169 #[.slice a L.length cap, .int .i64 i] w fun r w' => r = .returned (.int .u32 (L.getD i 0)) ∧ w' = w := by
  by_cases hi : i < L.length
  · obtain ⟨b, off, rfl, hb, hc⟩ := h i hi
    obtain ⟨d, hd⟩ : ∃ d, Hid (L.getD i 0 = d) := ⟨_, rfl⟩
    rw [hd.out] at hc ⊢
    obtain ⟨n, hnl⟩ : ∃ n, Hid (L.length = n) := ⟨_, rfl⟩
    rw [hnl.out] at hi ⊢
    have hii : (i : Int) < (n : Int) := by omega
    clear h hb
    go_enter Tryz.func169, Tryz.ntmps169
    go_wp2
    go_ret
    exact ⟨rfl, rfl⟩
  · have hd : L.getD i 0 = 0 := by simp [List.getD, hi]
    rw [hd]
    obtain ⟨n, hnl⟩ : ∃ n, Hid (L.length = n) := ⟨_, rfl⟩
    rw [hnl.out] at hi ⊢
    have hii : ¬ (i : Int) < (n : Int) := by omega
    clear h
    go_enter Tryz.func169, Tryz.ntmps169
    go_wp2
    go_ret
    exact ⟨rfl, rfl⟩
theorem ret_uu {a b a' b' : Int} (h1 : a = a') (h2 : b = b') : Ending.returned (.tuple #[.int .u32 a, .int .u32 b]) = .returned (.tuple #[.int .u32 a', .int .u32 b']) := by rw [h1, h2]
set_option maxHeartbeats 400000 in
theorem add32_any (x y c : Nat) (w : World) (hx : x < 4294967296) (hy : y < 4294967296) (hc : c ≤ 1) :
    Calls Tryz.prog 177 #[.int .u32 x, .int .u32 y, .int .u32 c] w fun r w' => r = .returned (.tuple #[.int .u32 ((x + y + c) % 4294967296 : Nat), .int .u32 ((x + y + c) / 4294967296 : Nat)]) ∧ w' = w := by
  have HX := hid hx
  have HY := hid hy
  have HC := hid hc
  clear hx hy hc
  go_enter Tryz.func177, Tryz.ntmps177
  go_wp2
  go_ret2
  have hx := HX.out
  have hy := HY.out
  have hc := HC.out
  exact ⟨ret_uu (by simp only [IntKind.wrap_u64]; omega) (by simp only [IntKind.wrap_u64]; omega), rfl⟩
theorem top32 (n : Nat) (h : n < 4294967296) : n / 2147483648 = (n.testBit 31).toNat ∧ n.testBit 31 = decide (2147483648 ≤ n) := by
  have e : n.testBit 31 = decide (n / 2147483648 % 2 = 1) := by
    rw [Nat.testBit_eq_decide_div_mod_eq]
  have e2 : decide (n / 2147483648 % 2 = 1) = decide (2147483648 ≤ n) := decide_eq_decide.2 (by omega)
  rw [e, e2]
  refine ⟨?_, rfl⟩
  by_cases c : 2147483648 ≤ n
  · rw [decide_eq_true c]; show _ = 1; omega
  · rw [decide_eq_false c]; show _ = 0; omega
/-- The borrow of a difference of words. -/
def bor (x y b : Nat) : Nat := if x < y + b then 1 else 0
def dif (x y b : Nat) : Nat := (x + 8589934592 - y - b) % 4294967296
theorem sub32_bits (x y b : Nat) (hx : x < 4294967296) (hy : y < 4294967296) (hb : b ≤ 1) :
    (((4294967295 - x) &&& y) ||| ((4294967295 - (x ^^^ y)) &&& dif x y b)) / 2147483648 = bor x y b := by
  have hd : dif x y b < 4294967296 := Nat.mod_lt _ (by decide)
  have hxy : x ^^^ y < 4294967296 := Nat.xor_lt_two_pow (n := 32) hx hy
  have h1 : ((4294967295 - x) &&& y) < 2 ^ 32 := Nat.and_lt_two_pow _ hy
  have h2 : ((4294967295 - (x ^^^ y)) &&& dif x y b) < 2 ^ 32 := Nat.and_lt_two_pow _ hd
  have h3 : (((4294967295 - x) &&& y) ||| ((4294967295 - (x ^^^ y)) &&& dif x y b)) < 4294967296 := Nat.or_lt_two_pow (n := 32) h1 h2
  have nx : (4294967295 - x).testBit 31 = !x.testBit 31 := by
    have := Nat.testBit_two_pow_sub_succ (n := 32) hx 31
    simpa using this
  have nxy : (4294967295 - (x ^^^ y)).testBit 31 = !(x ^^^ y).testBit 31 := by
    have := Nat.testBit_two_pow_sub_succ (n := 32) hxy 31
    simpa using this
  rw [(top32 _ h3).1, Nat.testBit_or, Nat.testBit_and, Nat.testBit_and, nx, nxy, Nat.testBit_xor, (top32 x hx).2, (top32 y hy).2, (top32 _ hd).2]
  unfold bor dif
  by_cases cx : 2147483648 ≤ x
  · by_cases cy : 2147483648 ≤ y
    · rw [decide_eq_true cx, decide_eq_true cy]
      by_cases c : x < y + b
      · rw [if_pos c, decide_eq_true (by omega)]; rfl
      · rw [if_neg c, decide_eq_false (by omega)]; rfl
    · rw [decide_eq_true cx, decide_eq_false cy, if_neg (by omega)]; simp
  · by_cases cy : 2147483648 ≤ y
    · rw [decide_eq_false cx, decide_eq_true cy, if_pos (by omega)]; simp
    · rw [decide_eq_false cx, decide_eq_false cy]
      by_cases c : x < y + b
      · rw [if_pos c, decide_eq_true (by omega)]; rfl
      · rw [if_neg c, decide_eq_false (by omega)]; rfl
theorem bnot32 (x : Nat) (h : x < 4294967296) : bits .xor .u32 IntKind.u32.max (x : Int) = ((4294967295 - x : Nat) : Int) := by
  have hm : IntKind.u32.max = ((4294967295 : Nat) : Int) := rfl
  rw [hm, u32_xor_nat 4294967295 x (by decide) h]
  congr 1
  apply Nat.eq_of_testBit_eq
  intro i
  have h1 := Nat.testBit_two_pow_sub_succ (n := 32) h i
  have h2 : (4294967295 : Nat).testBit i = decide (i < 32) := Nat.testBit_two_pow_sub_one 32 i
  have h3 : 2 ^ 32 - (x + 1) = 4294967295 - x := by simp only [Nat.reducePow]; omega
  rw [h3] at h1
  rw [h1, Nat.testBit_xor, h2]
  by_cases c : i < 32
  · rw [decide_eq_true c]; simp
  · rw [decide_eq_false c]
    have : x.testBit i = false := Nat.testBit_lt_two_pow (Nat.lt_of_lt_of_le h (by have : (2 : Nat) ^ 32 ≤ 2 ^ i := Nat.pow_le_pow_right (by decide) (by omega); simpa using this))
    rw [this]; rfl
theorem bor_w (x y b : Nat) (hx : x < 4294967296) (hy : y < 4294967296) (hb : b ≤ 1) : bits .or .u32 (bits .and .u32 (bits .xor .u32 IntKind.u32.max (x : Int)) (y : Int)) (bits .and .u32 (bits .xor .u32 IntKind.u32.max (bits .xor .u32 (x : Int) (y : Int))) (((x : Int) - y - b) % 4294967296)) / 2147483648 = (bor x y b : Int) := by
  have hd : dif x y b < 4294967296 := Nat.mod_lt _ (by decide)
  have hxy : x ^^^ y < 4294967296 := Nat.xor_lt_two_pow (n := 32) hx hy
  have h1 : ((4294967295 - x) &&& y) < 4294967296 := Nat.and_lt_two_pow (n := 32) _ hy
  have h2 : ((4294967295 - (x ^^^ y)) &&& dif x y b) < 4294967296 := Nat.and_lt_two_pow (n := 32) _ hd
  have e : ((x : Int) - y - b) % 4294967296 = (dif x y b : Int) := by unfold dif; omega
  rw [e, bnot32 x hx, u32_xor_nat x y hx hy, bnot32 _ hxy, u32_and_nat _ y (by omega) hy, u32_and_nat _ _ (by omega) hd, u32_or_nat _ _ h1 h2, ← sub32_bits x y b hx hy hb]
  omega
set_option maxHeartbeats 400000 in
theorem sub32_any (x y c : Nat) (w : World) (hx : x < 4294967296) (hy : y < 4294967296) (hc : c ≤ 1) :
    Calls Tryz.prog 168 #[.int .u32 x, .int .u32 y, .int .u32 c] w fun r w' => r = .returned (.tuple #[.int .u32 (dif x y c), .int .u32 (bor x y c)]) ∧ w' = w := by
  have HB := hid (bor_w x y c hx hy hc)
  have HD := hid (show (((x : Int) - y) % 4294967296 - c) % 4294967296 = (dif x y c : Int) by unfold dif; omega)
  obtain ⟨B, hB⟩ : ∃ B, Hid (bor x y c = B) := ⟨_, rfl⟩
  obtain ⟨D, hD⟩ : ∃ D, Hid (dif x y c = D) := ⟨_, rfl⟩
  rw [hB.out] at HB ⊢
  rw [hD.out] at HD ⊢
  clear hx hy hc
  have hsg : IntKind.u32.signed = false := rfl
  go_enter Tryz.func168, Tryz.ntmps168
  go_wp2
  go_ret2
  exact ⟨ret_uu HD.out HB.out, rfl⟩
end Go.Proofs.YtehnkgonhgjeiaaGreatDoor

namespace Go.Proofs.YtehnkgonhgjeiaaGreatDoor
open Go.RowKit Go.IntWalk

set_option maxRecDepth 4000 in
set_option maxHeartbeats 1000000 in
theorem plus_swap (A B : List Nat) (a b : Option Addr) (ca cb : Nat) (w : World) (hA : MagAt w a A) (hB : MagAt w b B) (dA : DigL A) (dB : DigL B) (hl : B.length < A.length) (hn : A.length ≤ 1000000) :
    Calls Tryz.prog 122 #[.slice b B.length cb, .slice a A.length ca] w fun r w' => MagOk (natL A + natL B) (A.length + 1) r w' ∧ Below w.heap.size w w' := by
  have HA := hid hA
  have HB := hid hB
  obtain ⟨n, hnl⟩ : ∃ n, Hid (A.length = n) := ⟨_, rfl⟩
  obtain ⟨m, hml⟩ : ∃ m, Hid (B.length = m) := ⟨_, rfl⟩
  rw [hnl.out] at hn hl ⊢
  rw [hml.out] at hl ⊢
  have hlI : (m : Int) < (n : Int) := by omega
  obtain ⟨M, hM⟩ : ∃ M, Hid (n + 1 = M) := ⟨_, rfl⟩
  have hM1 : IntKind.i64.wrap ((n : Int) + 1) = (M : Int) := by have := hM.out; rw [IntWalk.i64_in _ (by omega)]; omega
  have hM2 : (n : Int) + 1 = (M : Int) := by have := hM.out; omega
  have hmk := run_make_row' (P := Tryz.prog) 39 92 (.int .u32 0) 4 Tryz.underlying39 infoU rfl .i64 .i64 M (by have := hM.out; omega) (by have := hM.out; omega)
  rw [hM.out]
  clear hA hB
  go_enter Tryz.func122, Tryz.ntmps122
  go_wp2
  go_loopw [7, 8] (fun cv i wr => ∃ (k c : Nat) (o : Nat → Nat), k ≤ n ∧ cv = .int .u64 c ∧ i = .int .i64 k ∧ Hid (wr.rowIs w.heap.size 92 M (fun j => .int .u32 (o j))) ∧ Hid (PInv A B o c k) ∧ Hid (Below w.heap.size w wr)) (fun _ i _ => n - (intOf i).toNat)
  case atStart => exact ⟨0, 0, fun _ => 0, Nat.zero_le _, rfl, rfl, World.rowIs_made w (.int .u32 0) M _, ⟨rfl, by decide, fun _ => (show 0 < 4294967296 by decide)⟩, (Below.refl _ _).alloc (Nat.le_refl _) _⟩
  case round =>
    obtain ⟨k, c, o, hkn, rfl, rfl, HR, HI, HBW⟩ := hrel
    by_cases hlt : k < n
    · obtain ⟨ba, oa, rfl, hba, hca0⟩ := HA.out k (by rw [hnl.out]; exact hlt)
      have hca : wr.cell? ⟨ba, oa + k, none⟩ = some (.int .u32 (A.getD k 0)) := by
        rw [HBW.out.cell (p := ⟨ba, oa + k, none⟩) hba]
        exact hca0
      have hda := dA.get k
      have hdb := dB.get k
      have hc1 := HI.out.2.1
      have HST := hid (HI.out.step dA dB)
      have fx := HR.out.frozen
      have hlt2 := HR.out.lt
      have hkM : k < M := by have := hM.out; omega
      have hkMI : (k : Int) < (M : Int) := by omega
      have hknI : (k : Int) < (n : Int) := by omega
      have cx := HR.out.cell (i := k) hkM
      obtain ⟨x, hx⟩ : ∃ x, Hid (A.getD k 0 = x) := ⟨_, rfl⟩
      obtain ⟨y, hy⟩ : ∃ y, Hid (B.getD k 0 = y) := ⟨_, rfl⟩
      rw [hx.out] at hca hda HST
      rw [hy.out] at hdb HST
      have hwx : IntKind.u64.wrap (x : Int) = (x : Int) := by rw [IntKind.wrap_u64]; omega
      have hwy : IntKind.u64.wrap (y : Int) = (y : Int) := by rw [IntKind.wrap_u64]; omega
      have hs1 : IntKind.u64.wrap ((x : Int) + (c : Int)) = ((x + c : Nat) : Int) := by rw [IntKind.wrap_u64]; omega
      have hs2 : IntKind.u64.wrap (((x + c : Nat) : Int) + (y : Int)) = ((x + c + y : Nat) : Int) := by rw [IntKind.wrap_u64]; omega
      clear hca0 hba
      by_cases hkm : k < m
      · obtain ⟨bb, ob, rfl, hbb, hcb0⟩ := HB.out k (by rw [hml.out]; exact hkm)
        have hcb : wr.cell? ⟨bb, ob + k, none⟩ = some (.int .u32 (B.getD k 0)) := by
          rw [HBW.out.cell (p := ⟨bb, ob + k, none⟩) hbb]
          exact hcb0
        rw [hy.out] at hcb
        have hkmI : (k : Int) < (m : Int) := by omega
        obtain ⟨S1, hS1⟩ : ∃ S1, Hid (x + c = S1) := ⟨_, rfl⟩
        rw [hS1.out] at hs1 hs2 HST
        obtain ⟨S2, hS2⟩ : ∃ S2, Hid (S1 + y = S2) := ⟨_, rfl⟩
        rw [hS2.out] at hs2 HST
        have hS2b : S2 ≤ 8589934591 := by have := hS1.out; have := hS2.out; omega
        have hlo : IntKind.u32.wrap (S2 : Int) = ((S2 % 4294967296 : Nat) : Int) := by rw [IntKind.wrap_u32]; omega
        have hhi : (S2 : Int) / 4294967296 = ((S2 / 4294967296 : Nat) : Int) := by omega
        obtain ⟨lo, hlo'⟩ : ∃ lo, Hid (S2 % 4294967296 = lo) := ⟨_, rfl⟩
        obtain ⟨hi, hhi'⟩ : ∃ hi, Hid (S2 / 4294967296 = hi) := ⟨_, rfl⟩
        rw [hlo'.out] at hlo HST
        rw [hhi'.out] at hhi HST
        clear hcb0 hbb hda hdb hc1 hS2b
        go_wp2
        refine ⟨⟨k + 1, hi, _, by omega, rfl, by go_num, (HR.out.set k _).congr (fun j _ => row_if o k lo j), HST, Below.setCell HBW.out (Nat.le_refl _) _⟩, ?_⟩
        simp [intOf]; omega
      · have hy0 : y = 0 := by
          rw [← hy.out]
          have hn' : ¬ k < B.length := by rw [hml.out]; exact hkm
          simp [List.getD, hn']
        have hkmI : ¬ (k : Int) < (m : Int) := by omega
        rw [hy0, Nat.add_zero] at HST
        obtain ⟨S2, hS2⟩ : ∃ S2, Hid (x + c = S2) := ⟨_, rfl⟩
        rw [hS2.out] at hs1 HST
        have hS2b : S2 ≤ 8589934591 := by have := hS2.out; omega
        have hlo : IntKind.u32.wrap (S2 : Int) = ((S2 % 4294967296 : Nat) : Int) := by rw [IntKind.wrap_u32]; omega
        have hhi : (S2 : Int) / 4294967296 = ((S2 / 4294967296 : Nat) : Int) := by omega
        obtain ⟨lo, hlo'⟩ : ∃ lo, Hid (S2 % 4294967296 = lo) := ⟨_, rfl⟩
        obtain ⟨hi, hhi'⟩ : ∃ hi, Hid (S2 / 4294967296 = hi) := ⟨_, rfl⟩
        rw [hlo'.out] at hlo HST
        rw [hhi'.out] at hhi HST
        clear hda hdb hc1 hS2b hs2 hy0 hy hwy
        go_wp2
        refine ⟨⟨k + 1, hi, _, by omega, rfl, by go_num, (HR.out.set k _).congr (fun j _ => row_if o k lo j), HST, Below.setCell HBW.out (Nat.le_refl _) _⟩, ?_⟩
        simp [intOf]; omega
    · have hkn' : k = n := by omega
      subst hkn'
      have hc1 := HI.out.2.1
      have fx := HR.out.frozen
      have hlt2 := HR.out.lt
      have hkM : k < M := by have := hM.out; omega
      have hkMI : (k : Int) < (M : Int) := by omega
      have cx := HR.out.cell (i := k) hkM
      have hwc : IntKind.u32.wrap (c : Int) = (c : Int) := by rw [IntKind.wrap_u32]; omega
      obtain ⟨p, hp⟩ : ∃ p : Nat → Nat, Hid (p = fun j => if j = k then c else o j) := ⟨_, rfl⟩
      have HR2 : Hid ((wr.setCell ⟨w.heap.size, k, none⟩ (.int .u32 (c : Int))).rowIs w.heap.size 92 M (fun j => .int .u32 (p j))) := by
        rw [hp.out]
        exact (HR.out.set k _).congr (fun j _ => row_if o k c j)
      have HBW2 : Hid (Below w.heap.size w (wr.setCell ⟨w.heap.size, k, none⟩ (.int .u32 (c : Int)))) := Below.setCell HBW.out (Nat.le_refl _) _
      have HV : Hid (natF p M = natL A + natL B ∧ ∀ j, p j < 4294967296) := by
        obtain ⟨i1, i2, i3⟩ := HI.out
        rw [← hM.out, hp.out]
        refine ⟨?_, fun j => ?_⟩
        · show natF _ k + 4294967296 ^ k * (if k = k then c else o k) = _
          rw [if_pos rfl, natF_congr _ o k (fun j hj => if_neg (by omega)), i1]
          rw [List.take_of_length_le (by rw [hnl.out]; exact Nat.le_refl _), List.take_of_length_le (by rw [hml.out]; omega)]
        · show (if j = k then c else o j) < _
          split
          · omega
          · exact i3 j
      have HL := hid (show ((List.range M).map p).length = M by rw [List.length_map, List.length_range])
      have HCUT := hid (bcut_any ((List.range M).map p) (some ⟨w.heap.size, 0, none⟩) M _ (row_mag _ _ M _ p HR2.out) (by rw [HL.out]; exact Nat.le_refl _) (by rw [HL.out]; have := hM.out; omega))
      rw [HL.out] at HCUT
      clear HR HI hp hc1
      go_wp2_with fail
      refine HCUT.out.mono ?_
      rintro r w1 ⟨⟨j, hj, rfl, hv, he⟩, rfl⟩
      have hDo : DigL ((List.range M).map p) := by
        intro d hd
        obtain ⟨i, _, rfl⟩ := List.mem_map.1 hd
        exact HV.out.2 i
      obtain ⟨hcan, hlen⟩ := can_take _ j (by rw [HL.out]; exact hj) he
      have HF : Hid (MagOk (natL A + natL B) M (.returned (.slice (some ⟨w.heap.size, 0, none⟩) j M)) (wr.setCell ⟨w.heap.size, k, none⟩ (.int .u32 (c : Int)))) := by
        refine ⟨((List.range M).map p).take j, _, M, by rw [hlen], by rw [hlen]; exact hj, by rw [hlen]; exact hj, (row_mag _ _ M _ _ HR2.out).take j, hDo.take j, hcan, ?_⟩
        rw [hv, natF_list]
        exact HV.out.1
      clear hv he hcan hlen hDo hj
      go_wp2
      go_ret
      exact ⟨HF.out, HBW2.out⟩
theorem plus_any (A B : List Nat) (a b : Option Addr) (ca cb : Nat) (w : World) (hA : MagAt w a A) (hB : MagAt w b B) (dA : DigL A) (dB : DigL B) (hn : A.length ≤ 1000000) (hm : B.length ≤ 1000000) :
    Calls Tryz.prog 122 #[.slice a A.length ca, .slice b B.length cb] w fun r w' => MagOk (natL A + natL B) (max A.length B.length + 1) r w' ∧ Below w.heap.size w w' := by
  by_cases h : B.length ≤ A.length
  · rw [Nat.max_eq_left h]
    exact plus_loop A B a b ca cb w hA hB dA dB h hn
  · rw [Nat.max_eq_right (by omega), Nat.add_comm (natL A)]
    exact plus_swap B A b a cb ca w hB hA dB dA (by omega) hm
end Go.Proofs.YtehnkgonhgjeiaaGreatDoor

namespace Go.Proofs.YtehnkgonhgjeiaaGreatDoor
open Go.RowKit Go.IntWalk

/-- What holds ahead of the k-th round of minus. -/
def MInv (A B : List Nat) (o : Nat → Nat) (c k : Nat) : Prop := natF o k + natL (B.take k) = natL (A.take k) + 4294967296 ^ k * c ∧ c ≤ 1 ∧ ∀ j, o j < 4294967296
theorem MInv.step {A B : List Nat} {o : Nat → Nat} {c k r c' : Nat} (h : MInv A B o c k) (hr : r < 4294967296) (hc : c' ≤ 1) (e : c + B.getD k 0 + r = A.getD k 0 + 4294967296 * c') : MInv A B (fun j => if j = k then r else o j) c' (k + 1) := by
  obtain ⟨h1, h2, h3⟩ := h
  refine ⟨?_, hc, fun j => ?_⟩
  · rw [natL_take_any, natL_take_any]
    show natF _ k + 4294967296 ^ k * (if k = k then r else o k) + _ = _
    rw [if_pos rfl, natF_congr _ o k (fun j hj => if_neg (by omega)), Nat.pow_succ]
    have e2 : 4294967296 ^ k * (c + B.getD k 0 + r) = 4294967296 ^ k * (A.getD k 0 + 4294967296 * c') := by rw [e]
    rw [Nat.mul_add, Nat.mul_add, Nat.mul_add, ← Nat.mul_assoc] at e2
    omega
  · show (if j = k then r else o j) < _
    split
    · exact hr
    · exact h3 j
theorem natF_lt (o : Nat → Nat) (n : Nat) (h : ∀ j, o j < 4294967296) : natF o n < 4294967296 ^ n := by
  have := natL_lt ((List.range n).map o) (fun d hd => by obtain ⟨i, _, rfl⟩ := List.mem_map.1 hd; exact h i)
  rwa [natF_list, List.length_map, List.length_range] at this
theorem MInv.fin {A B : List Nat} {o : Nat → Nat} {c n : Nat} (h : MInv A B o c n) (hA : A.length = n) (hB : B.length ≤ n) (hle : natL B ≤ natL A) : natF o n = natL A - natL B := by
  obtain ⟨h1, h2, h3⟩ := h
  rw [List.take_of_length_le (by omega), List.take_of_length_le (by omega)] at h1
  have hlt := natF_lt o n h3
  have hc : c = 0 := by
    apply Classical.byContradiction
    intro hc
    have : c = 1 := by omega
    rw [this, Nat.mul_one] at h1
    omega
  rw [hc, Nat.mul_zero] at h1
  omega
set_option maxRecDepth 4000 in
set_option maxHeartbeats 1000000 in
theorem minus_loop (A B : List Nat) (a b : Option Addr) (ca cb : Nat) (w : World) (hA : MagAt w a A) (hB : MagAt w b B) (dA : DigL A) (dB : DigL B) (hl : B.length ≤ A.length) (hn : A.length ≤ 1000000) (hle : natL B ≤ natL A) :
    Calls Tryz.prog 121 #[.slice a A.length ca, .slice b B.length cb] w fun r w' => MagOk (natL A - natL B) A.length r w' ∧ Below w.heap.size w w' := by
  have HA := hid hA
  have HB := hid hB
  obtain ⟨n, hnl⟩ : ∃ n, Hid (A.length = n) := ⟨_, rfl⟩
  obtain ⟨m, hml⟩ : ∃ m, Hid (B.length = m) := ⟨_, rfl⟩
  rw [hnl.out] at hn hl ⊢
  rw [hml.out] at hl ⊢
  have hmk := run_make_row' (P := Tryz.prog) 39 92 (.int .u32 0) 4 Tryz.underlying39 infoU rfl .i64 .i64 n (by omega) (by omega)
  have HFIN : Hid (∀ o c, MInv A B o c n → natF o n = natL A - natL B) := fun o c h => h.fin hnl.out (by rw [hml.out]; exact hl) hle
  clear hA hB hle
  go_enter Tryz.func121, Tryz.ntmps121
  go_wp2
  go_loopw [6, 7] (fun cv i wr => ∃ (k c : Nat) (o : Nat → Nat), k ≤ n ∧ cv = .int .u64 c ∧ i = .int .i64 k ∧ Hid (wr.rowIs w.heap.size 92 n (fun j => .int .u32 (o j))) ∧ Hid (MInv A B o c k) ∧ Hid (Below w.heap.size w wr)) (fun _ i _ => n - (intOf i).toNat)
  case atStart => exact ⟨0, 0, fun _ => 0, Nat.zero_le _, rfl, rfl, World.rowIs_made w (.int .u32 0) n _, ⟨rfl, by decide, fun _ => (show 0 < 4294967296 by decide)⟩, (Below.refl _ _).alloc (Nat.le_refl _) _⟩
  case round =>
    obtain ⟨k, c, o, hkn, rfl, rfl, HR, HI, HBW⟩ := hrel
    by_cases hlt : k < n
    · obtain ⟨ba, oa, rfl, hba, hca0⟩ := HA.out k (by rw [hnl.out]; exact hlt)
      have hca : wr.cell? ⟨ba, oa + k, none⟩ = some (.int .u32 (A.getD k 0)) := by
        rw [HBW.out.cell (p := ⟨ba, oa + k, none⟩) hba]
        exact hca0
      have hda := dA.get k
      have hdb := dB.get k
      have hc1 := HI.out.2.1
      have fx := HR.out.frozen
      have hlt2 := HR.out.lt
      have hknI : (k : Int) < (n : Int) := by omega
      have cx := HR.out.cell (i := k) hlt
      obtain ⟨x, hx⟩ : ∃ x, Hid (A.getD k 0 = x) := ⟨_, rfl⟩
      obtain ⟨y, hy⟩ : ∃ y, Hid (B.getD k 0 = y) := ⟨_, rfl⟩
      rw [hx.out] at hca hda
      rw [hy.out] at hdb
      have hwx : IntKind.u64.wrap (x : Int) = (x : Int) := by rw [IntKind.wrap_u64]; omega
      have hwy : IntKind.u64.wrap (y : Int) = (y : Int) := by rw [IntKind.wrap_u64]; omega
      clear hca0 hba
      by_cases hkm : k < m
      · obtain ⟨bb, ob, rfl, hbb, hcb0⟩ := HB.out k (by rw [hml.out]; exact hkm)
        have hcb : wr.cell? ⟨bb, ob + k, none⟩ = some (.int .u32 (B.getD k 0)) := by
          rw [HBW.out.cell (p := ⟨bb, ob + k, none⟩) hbb]
          exact hcb0
        rw [hy.out] at hcb
        have hkmI : (k : Int) < (m : Int) := by omega
        obtain ⟨Y, hY⟩ : ∃ Y, Hid (c + y = Y) := ⟨_, rfl⟩
        have hYb : Y ≤ 4294967296 := by have := hY.out; omega
        have hs1 : IntKind.u64.wrap ((c : Int) + (y : Int)) = (Y : Int) := by have := hY.out; rw [IntKind.wrap_u64]; omega
        have hs2 : (c : Int) + (y : Int) = (Y : Int) := by have := hY.out; omega
        clear hcb0 hbb
        by_cases hxy : x < Y
        · obtain ⟨r, hr⟩ : ∃ r, Hid (x + 4294967296 - Y = r) := ⟨_, rfl⟩
          have hxI : (x : Int) < (Y : Int) := by omega
          have hr1 : IntKind.u64.wrap (IntKind.u64.wrap ((x : Int) + 4294967296) - (Y : Int)) = (r : Int) := by have := hr.out; rw [IntKind.wrap_u64, IntKind.wrap_u64]; omega
          have hr2 : IntKind.u32.wrap (r : Int) = (r : Int) := by have := hr.out; rw [IntKind.wrap_u32]; omega
          have hr3 : (x : Int) + 4294967296 - (Y : Int) = (r : Int) := by have := hr.out; omega
          have hr4 : IntKind.u64.wrap (Y : Int) = (Y : Int) := by rw [IntKind.wrap_u64]; omega
          have hr5 : IntKind.u64.wrap ((x : Int) + 4294967296) = (x : Int) + 4294967296 := by rw [IntKind.wrap_u64]; omega
          have hr6 : (r : Int) % 4294967296 = (r : Int) := by have := hr.out; omega
          have hr7 : IntKind.u64.wrap (r : Int) = (r : Int) := by have := hr.out; rw [IntKind.wrap_u64]; omega
          have HST : Hid (MInv A B (fun j => if j = k then r else o j) 1 (k + 1)) := HI.out.step (by have := hr.out; omega) (by decide) (by rw [hx.out, hy.out]; have := hr.out; have := hY.out; omega)
          clear hda hdb hc1 hxy hYb
          go_wp2
          refine ⟨⟨k + 1, 1, _, by omega, rfl, by go_num, (HR.out.set k _).congr (fun j _ => row_if o k r j), HST, Below.setCell HBW.out (Nat.le_refl _) _⟩, ?_⟩
          simp [intOf]; omega
        · obtain ⟨r, hr⟩ : ∃ r, Hid (x - Y = r) := ⟨_, rfl⟩
          have hxI : ¬ (x : Int) < (Y : Int) := by omega
          have hr1 : IntKind.u64.wrap ((x : Int) - (Y : Int)) = (r : Int) := by have := hr.out; rw [IntKind.wrap_u64]; omega
          have hr2 : IntKind.u32.wrap (r : Int) = (r : Int) := by have := hr.out; rw [IntKind.wrap_u32]; omega
          have hr3 : (x : Int) - (Y : Int) = (r : Int) := by have := hr.out; omega
          have hr4 : IntKind.u64.wrap (Y : Int) = (Y : Int) := by rw [IntKind.wrap_u64]; omega
          have hr6 : (r : Int) % 4294967296 = (r : Int) := by have := hr.out; omega
          have hr7 : IntKind.u64.wrap (r : Int) = (r : Int) := by have := hr.out; rw [IntKind.wrap_u64]; omega
          have HST : Hid (MInv A B (fun j => if j = k then r else o j) 0 (k + 1)) := HI.out.step (by have := hr.out; omega) (by decide) (by rw [hx.out, hy.out]; have := hr.out; have := hY.out; omega)
          clear hda hdb hc1 hxy hYb
          go_wp2
          refine ⟨⟨k + 1, 0, _, by omega, rfl, by go_num, (HR.out.set k _).congr (fun j _ => row_if o k r j), HST, Below.setCell HBW.out (Nat.le_refl _) _⟩, ?_⟩
          simp [intOf]; omega
      · have hy0 : y = 0 := by
          rw [← hy.out]
          have hn' : ¬ k < B.length := by rw [hml.out]; exact hkm
          simp [List.getD, hn']
        have hkmI : ¬ (k : Int) < (m : Int) := by omega
        have hY : Hid (c + y = c) := by show c + y = c; omega
        have hYb : c ≤ 1 := hc1
        clear hy0
        by_cases hxy : x < c
        · obtain ⟨r, hr⟩ : ∃ r, Hid (x + 4294967296 - c = r) := ⟨_, rfl⟩
          have hxI : (x : Int) < (c : Int) := by omega
          have hr1 : IntKind.u64.wrap (IntKind.u64.wrap ((x : Int) + 4294967296) - (c : Int)) = (r : Int) := by have := hr.out; rw [IntKind.wrap_u64, IntKind.wrap_u64]; omega
          have hr2 : IntKind.u32.wrap (r : Int) = (r : Int) := by have := hr.out; rw [IntKind.wrap_u32]; omega
          have hr3 : (x : Int) + 4294967296 - (c : Int) = (r : Int) := by have := hr.out; omega
          have hr4 : IntKind.u64.wrap (c : Int) = (c : Int) := by rw [IntKind.wrap_u64]; omega
          have hr5 : IntKind.u64.wrap ((x : Int) + 4294967296) = (x : Int) + 4294967296 := by rw [IntKind.wrap_u64]; omega
          have hr6 : (r : Int) % 4294967296 = (r : Int) := by have := hr.out; omega
          have hr7 : IntKind.u64.wrap (r : Int) = (r : Int) := by have := hr.out; rw [IntKind.wrap_u64]; omega
          have HST : Hid (MInv A B (fun j => if j = k then r else o j) 1 (k + 1)) := HI.out.step (by have := hr.out; omega) (by decide) (by rw [hx.out, hy.out]; have := hr.out; have := hY.out; omega)
          clear hda hdb hc1 hxy hYb
          go_wp2
          refine ⟨⟨k + 1, 1, _, by omega, rfl, by go_num, (HR.out.set k _).congr (fun j _ => row_if o k r j), HST, Below.setCell HBW.out (Nat.le_refl _) _⟩, ?_⟩
          simp [intOf]; omega
        · obtain ⟨r, hr⟩ : ∃ r, Hid (x - c = r) := ⟨_, rfl⟩
          have hxI : ¬ (x : Int) < (c : Int) := by omega
          have hr1 : IntKind.u64.wrap ((x : Int) - (c : Int)) = (r : Int) := by have := hr.out; rw [IntKind.wrap_u64]; omega
          have hr2 : IntKind.u32.wrap (r : Int) = (r : Int) := by have := hr.out; rw [IntKind.wrap_u32]; omega
          have hr3 : (x : Int) - (c : Int) = (r : Int) := by have := hr.out; omega
          have hr4 : IntKind.u64.wrap (c : Int) = (c : Int) := by rw [IntKind.wrap_u64]; omega
          have hr6 : (r : Int) % 4294967296 = (r : Int) := by have := hr.out; omega
          have hr7 : IntKind.u64.wrap (r : Int) = (r : Int) := by have := hr.out; rw [IntKind.wrap_u64]; omega
          have HST : Hid (MInv A B (fun j => if j = k then r else o j) 0 (k + 1)) := HI.out.step (by have := hr.out; omega) (by decide) (by rw [hx.out, hy.out]; have := hr.out; have := hY.out; omega)
          clear hda hdb hc1 hxy hYb
          go_wp2
          refine ⟨⟨k + 1, 0, _, by omega, rfl, by go_num, (HR.out.set k _).congr (fun j _ => row_if o k r j), HST, Below.setCell HBW.out (Nat.le_refl _) _⟩, ?_⟩
          simp [intOf]; omega
    · have hkn' : k = n := by omega
      subst hkn'
      have HV := hid (HFIN.out o c HI.out)
      have HDO : Hid (∀ j, o j < 4294967296) := HI.out.2.2
      have HL := hid (show ((List.range k).map o).length = k by rw [List.length_map, List.length_range])
      have HCUT := hid (bcut_any ((List.range k).map o) (some ⟨w.heap.size, 0, none⟩) k wr (row_mag wr _ k _ o HR.out) (by rw [HL.out]; exact Nat.le_refl _) (by rw [HL.out]; omega))
      rw [HL.out] at HCUT
      clear HI
      go_wp2_with fail
      refine HCUT.out.mono ?_
      rintro r w1 ⟨⟨j, hj, rfl, hv, he⟩, rfl⟩
      have hDo : DigL ((List.range k).map o) := by
        intro d hd
        obtain ⟨i, _, rfl⟩ := List.mem_map.1 hd
        exact HDO.out i
      obtain ⟨hcan, hlen⟩ := can_take _ j (by rw [HL.out]; exact hj) he
      have HF : Hid (MagOk (natL A - natL B) k (.returned (.slice (some ⟨w.heap.size, 0, none⟩) j k)) w1) := by
        refine ⟨((List.range k).map o).take j, _, k, by rw [hlen], by rw [hlen]; exact hj, by rw [hlen]; exact hj, (row_mag _ _ k _ _ HR.out).take j, hDo.take j, hcan, ?_⟩
        rw [hv, natF_list]
        exact HV.out
      clear hv he hcan hlen hDo hj
      go_wp2
      go_ret
      exact ⟨HF.out, HBW.out⟩
theorem minus_any (A B : List Nat) (a b : Option Addr) (ca cb : Nat) (w : World) (hA : MagAt w a A) (hB : MagAt w b B) (dA : DigL A) (dB : DigL B) (cB : CanL B) (hn : A.length ≤ 1000000) (hle : natL B ≤ natL A) :
    Calls Tryz.prog 121 #[.slice a A.length ca, .slice b B.length cb] w fun r w' => MagOk (natL A - natL B) A.length r w' ∧ Below w.heap.size w w' := by
  refine minus_loop A B a b ca cb w hA hB dA dB ?_ hn hle
  apply Classical.byContradiction
  intro h
  have := natL_shorter A B dA cB (by omega)
  omega
end Go.Proofs.YtehnkgonhgjeiaaGreatDoor
