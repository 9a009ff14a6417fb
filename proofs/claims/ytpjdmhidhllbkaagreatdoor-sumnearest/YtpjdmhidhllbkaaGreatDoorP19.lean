
/- What dyad's plus and minus do. -/
import Derived.Test.YtpjdmhidhllbkaaGreatDoorP14
import Derived.Test.YtpjdmhidhllbkaaGreatDoorP15
import Derived.Deep.QuietTactic
import Derived.BigQuiet
namespace Go.Proofs.YtpjdmhidhllbkaaGreatDoor
open Go.RowKit Go.IntWalk

/-- New words, trimmed. -/
theorem trim_row (o : Nat → Nat) (M B v : Nat) (W : World) (hR : W.rowIs B 105 M (fun j => .int .u32 (o j))) (hv : natF o M = v) (hd : ∀ j, o j < 4294967296) (hM : M ≤ 1099511627776) :
    Calls Tryz.prog 111 #[.slice (some ⟨B, 0, none⟩) M M] W fun r w' => MagOk v M r w' ∧ w' = W := by
  have HL : ((List.range M).map o).length = M := by rw [List.length_map, List.length_range]
  have hDo : DigL ((List.range M).map o) := by
    intro d hd'
    obtain ⟨i, _, rfl⟩ := List.mem_map.1 hd'
    exact hd i
  have h := trim_any ((List.range M).map o) (some ⟨B, 0, none⟩) M W (row_mag _ _ M _ o hR) (by rw [HL]; exact Nat.le_refl _) (by rw [HL]; exact hM)
  rw [HL] at h
  refine h.mono ?_
  rintro r w1 ⟨⟨j, hj, rfl, hv2, he⟩, rfl⟩
  obtain ⟨hcan, hlen⟩ := can_take _ j (by rw [HL]; exact hj) he
  refine ⟨⟨((List.range M).map o).take j, _, M, by rw [hlen], by rw [hlen]; exact hj, by rw [hlen]; exact hj, (row_mag _ _ M _ _ hR).take j, hDo.take j, hcan, ?_⟩, rfl⟩
  rw [hv2, natF_list]
  exact hv
/-- A row of words of one's own, at least so long. -/
def OwnRow (w : World) (p : Addr) (l : Nat) : Prop := ∃ (b M : Nat) (f : Nat → Int), p = ⟨b, 0, none⟩ ∧ l ≤ M ∧ w.rowIs b 105 M (fun j => .int .u32 (f j))
theorem OwnRow.of_block {w w' : World} {p : Addr} {l : Nat} (h : OwnRow w p l) (e : w'.heap[p.block]? = w.heap[p.block]?) : OwnRow w' p l := by
  obtain ⟨b, M, f, rfl, h1, h2⟩ := h
  exact ⟨b, M, f, rfl, h1, h2.of_block e⟩
theorem OwnRow.lt {w : World} {p : Addr} {l : Nat} (h : OwnRow w p l) : p.block < w.heap.size := by
  obtain ⟨b, M, f, rfl, h1, h2⟩ := h
  exact h2.lt
/-- Words in new memory. -/
def MagNew (v bound B : Nat) (r : Ending) (w' : World) : Prop := ∃ (L' : List Nat) (a' : Option Addr) (cap' : Nat), r = .returned (.slice a' L'.length cap') ∧ (L'.length ≤ cap' ∧ L'.length ≤ bound ∧ MagAt w' a' L' ∧ DigL L' ∧ CanL L' ∧ natL L' = v) ∧ (∀ p, a' = some p → B ≤ p.block ∧ OwnRow w' p L'.length)
theorem trim_new (o : Nat → Nat) (M B v : Nat) (W : World) (hR : W.rowIs B 105 M (fun j => .int .u32 (o j))) (hv : natF o M = v) (hd : ∀ j, o j < 4294967296) (hM : M ≤ 1099511627776) :
    Calls Tryz.prog 111 #[.slice (some ⟨B, 0, none⟩) M M] W fun r w' => MagNew v M B r w' ∧ w' = W := by
  have HL : ((List.range M).map o).length = M := by rw [List.length_map, List.length_range]
  have hDo : DigL ((List.range M).map o) := by
    intro d hd'
    obtain ⟨i, _, rfl⟩ := List.mem_map.1 hd'
    exact hd i
  have h := trim_any ((List.range M).map o) (some ⟨B, 0, none⟩) M W (row_mag _ _ M _ o hR) (by rw [HL]; exact Nat.le_refl _) (by rw [HL]; exact hM)
  rw [HL] at h
  refine h.mono ?_
  rintro r w1 ⟨⟨j, hj, rfl, hv2, he⟩, rfl⟩
  obtain ⟨hcan, hlen⟩ := can_take _ j (by rw [HL]; exact hj) he
  refine ⟨⟨((List.range M).map o).take j, _, M, by rw [hlen], ⟨by rw [hlen]; exact hj, by rw [hlen]; exact hj, (row_mag _ _ M _ _ hR).take j, hDo.take j, hcan, ?_⟩, fun p hp => ?_⟩, rfl⟩
  · rw [hv2, natF_list]
    exact hv
  · cases hp
    exact ⟨Nat.le_refl _, B, M, fun j => (o j : Int), rfl, by rw [hlen]; exact hj, hR⟩
theorem PInv.last {A B : List Nat} {o : Nat → Nat} {c M : Nat} (h : PInv A B o c M) (hA : DigL A) (hB : DigL B) (lA : A.length + 1 ≤ M) (lB : B.length + 1 ≤ M) : natF o M = natL A + natL B := by
  obtain ⟨h1, h2, h3⟩ := h
  rw [List.take_of_length_le (by omega), List.take_of_length_le (by omega)] at h1
  obtain ⟨K, hK⟩ : ∃ K, M = K + 1 := ⟨M - 1, by omega⟩
  have a1 : natL A < 4294967296 ^ K := Nat.lt_of_lt_of_le (natL_lt A hA) (Nat.pow_le_pow_right (by decide) (by omega))
  have b1 : natL B < 4294967296 ^ K := Nat.lt_of_lt_of_le (natL_lt B hB) (Nat.pow_le_pow_right (by decide) (by omega))
  have hc : c = 0 := by
    apply Classical.byContradiction
    intro hc
    have c1 : c = 1 := by omega
    rw [c1, Nat.mul_one, hK, Nat.pow_succ] at h1
    omega
  rw [hc, Nat.mul_zero, Nat.add_zero] at h1
  exact h1
set_option maxRecDepth 4000 in
set_option maxHeartbeats 1000000 in
theorem dplus_any (A B : List Nat) (a b : Option Addr) (ca cb : Nat) (w : World) (hA : MagAt w a A) (hB : MagAt w b B) (dA : DigL A) (dB : DigL B) (hn : A.length ≤ 1000000) (hm : B.length ≤ 1000000) :
    Calls Tryz.prog 151 #[.slice a A.length ca, .slice b B.length cb] w fun r w' => MagOk (natL A + natL B) (max A.length B.length + 1) r w' ∧ Below w.heap.size w w' := by
  have HA := hid hA
  have HB := hid hB
  have HWA : Hid (∀ W k, Below w.heap.size w W → Calls Tryz.prog 123 #[.slice a A.length ca, .int .i64 (k : Nat)] W fun r w' => r = .returned (.int .u32 (A.getD k 0)) ∧ w' = W) := fun W k hb => word_any A a ca k W (hA.below hb)
  have HWB : Hid (∀ W k, Below w.heap.size w W → Calls Tryz.prog 123 #[.slice b B.length cb, .int .i64 (k : Nat)] W fun r w' => r = .returned (.int .u32 (B.getD k 0)) ∧ w' = W) := fun W k hb => word_any B b cb k W (hB.below hb)
  have HL : Hid (∀ o c, PInv A B o c (max A.length B.length + 1) → natF o (max A.length B.length + 1) = natL A + natL B) := fun o c h => h.last dA dB (by omega) (by omega)
  have HLE := hid (show max A.length B.length + 1 ≤ 1099511627776 by omega)
  obtain ⟨n, hnl⟩ : ∃ n, Hid (A.length = n) := ⟨_, rfl⟩
  obtain ⟨m, hml⟩ : ∃ m, Hid (B.length = m) := ⟨_, rfl⟩
  obtain ⟨M, hM⟩ : ∃ M, Hid (max n m + 1 = M) := ⟨_, rfl⟩
  rw [hnl.out] at hn HWA
  rw [hml.out] at hm HWB
  rw [hnl.out, hml.out, hM.out] at HL HLE
  rw [hnl.out, hml.out, hM.out]
  obtain ⟨X, hX⟩ : ∃ X, (n < m ∧ X = m) ∨ (¬ n < m ∧ X = n) := by
    by_cases h : n < m
    · exact ⟨m, Or.inl ⟨h, rfl⟩⟩
    · exact ⟨n, Or.inr ⟨h, rfl⟩⟩
  have hM1 : IntKind.i64.wrap ((X : Int) + 1) = (M : Int) := by have := hM.out; rw [IntWalk.i64_in _ (by omega)]; omega
  have hM2 : (X : Int) + 1 = (M : Int) := by have := hM.out; omega
  have hmk := run_make_row' (P := Tryz.prog) 62 105 (.int .u32 0) 4 Tryz.underlying62 infoU rfl .i64 .i64 M (by have := hM.out; omega) (by have := hM.out; omega)
  have HMB := hid (show M ≤ 1000001 by have := hM.out; omega)
  clear hA hB
  rcases hX with ⟨hnm, rfl⟩ | ⟨hnm, rfl⟩
  all_goals
    go_enter Tryz.func151, Tryz.ntmps151
    go_wp2
    go_loopw [6, 17] (fun cv i wr => ∃ (k c : Nat) (o : Nat → Nat), k ≤ M ∧ cv = .int .u32 c ∧ i = .int .i64 k ∧ Hid (wr.rowIs w.heap.size 105 M (fun j => .int .u32 (o j))) ∧ Hid (PInv A B o c k) ∧ Hid (Below w.heap.size w wr)) (fun _ i _ => M - (intOf i).toNat)
    case atStart => exact ⟨0, 0, fun _ => 0, Nat.zero_le _, rfl, rfl, World.rowIs_made w (.int .u32 0) M _, ⟨rfl, by decide, fun _ => (show 0 < 4294967296 by decide)⟩, (Below.refl _ _).alloc (Nat.le_refl _) _⟩
    case round =>
      obtain ⟨k, c, o, hkn, rfl, rfl, HR, HI, HBW⟩ := hrel
      by_cases hlt : k < M
      · have HST := hid (HI.out.step dA dB)
        have fx := HR.out.frozen
        have hlt2 := HR.out.lt
        have hkMI : (k : Int) < (M : Int) := by omega
        have cx := HR.out.cell (i := k) hlt
        have HAD := hid (fun (W : World) => add32_any (A.getD k 0) (B.getD k 0) c W (dA.get k) (dB.get k) HI.out.2.1)
        rw [show A.getD k 0 + B.getD k 0 + c = A.getD k 0 + c + B.getD k 0 by omega] at HAD
        obtain ⟨x, hx⟩ : ∃ x, Hid (A.getD k 0 = x) := ⟨_, rfl⟩
        obtain ⟨y, hy⟩ : ∃ y, Hid (B.getD k 0 = y) := ⟨_, rfl⟩
        have HA1 := hid (HWA.out wr k HBW.out)
        have HB1 := hid (HWB.out wr k HBW.out)
        rw [hx.out] at HA1 HAD HST
        rw [hy.out] at HB1 HAD HST
        obtain ⟨lo, hlo⟩ : ∃ lo, Hid ((x + c + y) % 4294967296 = lo) := ⟨_, rfl⟩
        obtain ⟨hi, hhi⟩ : ∃ hi, Hid ((x + c + y) / 4294967296 = hi) := ⟨_, rfl⟩
        rw [hlo.out, hhi.out] at HAD HST
        go_wp2_with fail
        refine HA1.out.mono ?_
        rintro r w1 ⟨rfl, rfl⟩
        go_wp2_with fail
        refine HB1.out.mono ?_
        rintro r w1 ⟨rfl, rfl⟩
        go_wp2_with fail
        refine (HAD.out _).mono ?_
        rintro r w1 ⟨rfl, rfl⟩
        go_wp2
        refine ⟨⟨k + 1, hi, _, by omega, rfl, by go_num, (HR.out.set k _).congr (fun j _ => row_if o k lo j), HST, Below.setCell HBW.out (Nat.le_refl _) _⟩, ?_⟩
        simp [intOf]; omega
      · have hkM : k = M := by omega
        subst hkM
        have HT := hid (trim_row o k w.heap.size _ wr HR.out (HL.out o c HI.out) HI.out.2.2 HLE.out)
        have HBE := HBW
        clear HR HI hlt
        go_wp2_with fail
        refine HT.out.mono ?_
        rintro r w1 ⟨hr, rfl⟩
        obtain ⟨L', a', cap', rfl, hr2⟩ := hr
        have HR2 := hid hr2
        clear hr2
        go_wp2
        go_ret
        exact ⟨⟨L', a', cap', rfl, HR2.out⟩, HBE.out⟩
theorem dif_eq (x y c : Nat) (hx : x < 4294967296) (hy : y < 4294967296) (hc : c ≤ 1) : c + y + dif x y c = x + 4294967296 * bor x y c ∧ dif x y c < 4294967296 ∧ bor x y c ≤ 1 := by
  unfold dif bor
  split <;> omega
set_option maxRecDepth 4000 in
set_option maxHeartbeats 1000000 in
theorem dminus_any (A B : List Nat) (a b : Option Addr) (ca cb : Nat) (w : World) (hA : MagAt w a A) (hB : MagAt w b B) (dA : DigL A) (dB : DigL B) (hl : B.length ≤ A.length) (hn : A.length ≤ 1000000) (hle : natL B ≤ natL A) :
    Calls Tryz.prog 114 #[.slice a A.length ca, .slice b B.length cb] w fun r w' => MagOk (natL A - natL B) A.length r w' ∧ Below w.heap.size w w' := by
  have HA := hid hA
  have HWB : Hid (∀ W k, Below w.heap.size w W → Calls Tryz.prog 123 #[.slice b B.length cb, .int .i64 (k : Nat)] W fun r w' => r = .returned (.int .u32 (B.getD k 0)) ∧ w' = W) := fun W k hb => word_any B b cb k W (hB.below hb)
  obtain ⟨n, hnl⟩ : ∃ n, Hid (A.length = n) := ⟨_, rfl⟩
  obtain ⟨m, hml⟩ : ∃ m, Hid (B.length = m) := ⟨_, rfl⟩
  rw [hnl.out] at hn hl ⊢
  rw [hml.out] at hl HWB ⊢
  have hmk := run_make_row' (P := Tryz.prog) 62 105 (.int .u32 0) 4 Tryz.underlying62 infoU rfl .i64 .i64 n (by omega) (by omega)
  have HFIN : Hid (∀ o c, MInv A B o c n → natF o n = natL A - natL B) := fun o c h => h.fin hnl.out (by rw [hml.out]; exact hl) hle
  clear hA hB hle
  go_enter Tryz.func114, Tryz.ntmps114
  go_wp2
  go_loopw [6, 13] (fun cv i wr => ∃ (k c : Nat) (o : Nat → Nat), k ≤ n ∧ cv = .int .u32 c ∧ i = .int .i64 k ∧ Hid (wr.rowIs w.heap.size 105 n (fun j => .int .u32 (o j))) ∧ Hid (MInv A B o c k) ∧ Hid (Below w.heap.size w wr)) (fun _ i _ => n - (intOf i).toNat)
  case atStart => exact ⟨0, 0, fun _ => 0, Nat.zero_le _, rfl, rfl, World.rowIs_made w (.int .u32 0) n _, ⟨rfl, by decide, fun _ => (show 0 < 4294967296 by decide)⟩, (Below.refl _ _).alloc (Nat.le_refl _) _⟩
  case round =>
    obtain ⟨k, c, o, hkn, rfl, rfl, HR, HI, HBW⟩ := hrel
    by_cases hlt : k < n
    · obtain ⟨ba, oa, rfl, hba, hca0⟩ := HA.out k (by rw [hnl.out]; exact hlt)
      have hca : wr.cell? ⟨ba, oa + k, none⟩ = some (.int .u32 (A.getD k 0)) := by
        rw [HBW.out.cell (p := ⟨ba, oa + k, none⟩) hba]
        exact hca0
      obtain ⟨e1, e2, e3⟩ := dif_eq (A.getD k 0) (B.getD k 0) c (dA.get k) (dB.get k) HI.out.2.1
      have HST := hid (HI.out.step e2 e3 e1)
      have HSU := hid (fun (W : World) => sub32_any (A.getD k 0) (B.getD k 0) c W (dA.get k) (dB.get k) HI.out.2.1)
      have fx := HR.out.frozen
      have hlt2 := HR.out.lt
      have hkMI : (k : Int) < (n : Int) := by omega
      have hk0 : (0 : Int) ≤ (k : Int) := by omega
      have cx := HR.out.cell (i := k) hlt
      have HB1 : Hid (∀ W, Hid (Below w.heap.size w W) → Calls Tryz.prog 123 #[.slice b m cb, .int .i64 (k : Nat)] W fun r w' => r = .returned (.int .u32 (B.getD k 0)) ∧ w' = W) := fun W hb => HWB.out W k hb.out
      have HBD : Hid (Below w.heap.size w wr.drew) := HBW.out.drew
      obtain ⟨x, hx⟩ : ∃ x, Hid (A.getD k 0 = x) := ⟨_, rfl⟩
      obtain ⟨y, hy⟩ : ∃ y, Hid (B.getD k 0 = y) := ⟨_, rfl⟩
      rw [hx.out] at hca HSU HST
      rw [hy.out] at HB1 HSU HST
      obtain ⟨D, hD⟩ : ∃ D, Hid (dif x y c = D) := ⟨_, rfl⟩
      obtain ⟨B', hB'⟩ : ∃ B', Hid (bor x y c = B') := ⟨_, rfl⟩
      rw [hD.out, hB'.out] at HSU HST
      have hne : ¬ ba = w.heap.size := by omega
      have hne2 : ¬ w.heap.size = ba := by omega
      clear hca0 hba e1 e2 e3
      go_wp2_with fail
      go_region_held3 (fun W => W.cell? ⟨ba, oa + k, none⟩ = some (.int .u32 x)) (go_keep)
        (first
          | (go_at_call 123; refine (HB1.out _ (by first | exact HBD | exact HBW)).mono ?_; rintro r w1 ⟨rfl, rfl⟩)
          | (go_at_call 141; refine (HSU.out _).mono ?_; rintro r w1 ⟨rfl, rfl⟩))
      all_goals go_wp2
      all_goals
        refine ⟨⟨k + 1, B', _, by omega, rfl, by go_num, (((HR.out.set k _).congr (fun j _ => row_if o k D j)).drew), HST, (Below.setCell HBW.out (Nat.le_refl _) _).drew⟩, ?_⟩
        simp [intOf]; omega
    · have hkM : k = n := by omega
      subst hkM
      have HT := hid (trim_row o k w.heap.size _ wr HR.out (HFIN.out o c HI.out) HI.out.2.2 (by omega))
      have HBE := HBW
      clear HR HI hlt
      go_wp2_with fail
      refine HT.out.mono ?_
      rintro r w1 ⟨hr, rfl⟩
      obtain ⟨L', a', cap', rfl, hr2⟩ := hr
      have HR2 := hid hr2
      clear hr2
      go_wp2
      go_ret
      exact ⟨⟨L', a', cap', rfl, HR2.out⟩, HBE.out⟩
end Go.Proofs.YtpjdmhidhllbkaaGreatDoor
