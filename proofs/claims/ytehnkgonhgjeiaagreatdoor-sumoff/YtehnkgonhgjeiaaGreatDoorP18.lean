
/- What dyad's plus and minus do. -/
import Derived.Test.YtehnkgonhgjeiaaGreatDoorP13
import Derived.Test.YtehnkgonhgjeiaaGreatDoorP14
import Derived.Deep.QuietTactic
import Derived.BigQuiet
import Derived.Test.YtehnkgonhgjeiaaGreatDoorP6
namespace Go.Proofs.YtehnkgonhgjeiaaGreatDoor
open Go.RowKit Go.IntWalk

/-- New words, trimmed. -/
theorem trim_row (o : Nat → Nat) (M B v : Nat) (W : World) (hR : W.rowIs B 92 M (fun j => .int .u32 (o j))) (hv : natF o M = v) (hd : ∀ j, o j < 4294967296) (hM : M ≤ 1099511627776) :
    Calls Tryz.prog 112 #[.slice (some ⟨B, 0, none⟩) M M] W fun r w' => MagOk v M r w' ∧ w' = W := by
  have HL : ((List.range M).map o).length = M := by rw [List.length_map, List.length_range]
  have hDo : DigL ((List.range M).map o) := by
    intro d hd'
    obtain ⟨i, _, rfl⟩ := List.mem_map.1 hd'
    exact hd i
  have h := trim_any ((List.range M).map o) (some ⟨B, 0, none⟩) M W (row_mag _ _ M _ o hR) (by rw [HL]; exact Nat.le_refl _) (by rw [HL]; exact hM)
  rw [HL] at h
  refine h.mono ?_
  rintro r w1 ⟨⟨j, hj, rfl, hv2, he⟩, rfl⟩
  obtain ⟨hcan, hlen⟩ := can_take _ j (by rw [HL]; exact hj) he
  refine ⟨⟨((List.range M).map o).take j, _, M, by rw [hlen], by rw [hlen]; exact hj, by rw [hlen]; exact hj, (row_mag _ _ M _ _ hR).take j, hDo.take j, hcan, ?_⟩, rfl⟩
  rw [hv2, natF_list]
  exact hv
/-- A row of words of one's own, at least so long. -/
def OwnRow (w : World) (p : Addr) (l : Nat) : Prop := ∃ (b M : Nat) (f : Nat → Int), p = ⟨b, 0, none⟩ ∧ l ≤ M ∧ w.rowIs b 92 M (fun j => .int .u32 (f j))
theorem OwnRow.of_block {w w' : World} {p : Addr} {l : Nat} (h : OwnRow w p l) (e : w'.heap[p.block]? = w.heap[p.block]?) : OwnRow w' p l := by
  obtain ⟨b, M, f, rfl, h1, h2⟩ := h
  exact ⟨b, M, f, rfl, h1, h2.of_block e⟩
theorem OwnRow.lt {w : World} {p : Addr} {l : Nat} (h : OwnRow w p l) : p.block < w.heap.size := by
  obtain ⟨b, M, f, rfl, h1, h2⟩ := h
  exact h2.lt
/-- Words in new memory. -/
def MagNew (v bound B : Nat) (r : Ending) (w' : World) : Prop := ∃ (L' : List Nat) (a' : Option Addr) (cap' : Nat), r = .returned (.slice a' L'.length cap') ∧ (L'.length ≤ cap' ∧ L'.length ≤ bound ∧ MagAt w' a' L' ∧ DigL L' ∧ CanL L' ∧ natL L' = v) ∧ (∀ p, a' = some p → B ≤ p.block ∧ OwnRow w' p L'.length)
theorem trim_new (o : Nat → Nat) (M B v : Nat) (W : World) (hR : W.rowIs B 92 M (fun j => .int .u32 (o j))) (hv : natF o M = v) (hd : ∀ j, o j < 4294967296) (hM : M ≤ 1099511627776) :
    Calls Tryz.prog 112 #[.slice (some ⟨B, 0, none⟩) M M] W fun r w' => MagNew v M B r w' ∧ w' = W := by
  have HL : ((List.range M).map o).length = M := by rw [List.length_map, List.length_range]
  have hDo : DigL ((List.range M).map o) := by
    intro d hd'
    obtain ⟨i, _, rfl⟩ := List.mem_map.1 hd'
    exact hd i
  have h := trim_any ((List.range M).map o) (some ⟨B, 0, none⟩) M W (row_mag _ _ M _ o hR) (by rw [HL]; exact Nat.le_refl _) (by rw [HL]; exact hM)
  rw [HL] at h
  refine h.mono ?_
  rintro r w1 ⟨⟨j, hj, rfl, hv2, he⟩, rfl⟩
  obtain ⟨hcan, hlen⟩ := can_take _ j (by rw [HL]; exact hj) he
  refine ⟨⟨((List.range M).map o).take j, _, M, by rw [hlen], ⟨by rw [hlen]; exact hj, by rw [hlen]; exact hj, (row_mag _ _ M _ _ hR).take j, hDo.take j, hcan, ?_⟩, fun p hp => ?_⟩, rfl⟩
  · rw [hv2, natF_list]
    exact hv
  · cases hp
    exact ⟨Nat.le_refl _, B, M, fun j => (o j : Int), rfl, by rw [hlen]; exact hj, hR⟩
theorem PInv.last {A B : List Nat} {o : Nat → Nat} {c M : Nat} (h : PInv A B o c M) (hA : DigL A) (hB : DigL B) (lA : A.length + 1 ≤ M) (lB : B.length + 1 ≤ M) : natF o M = natL A + natL B := by
  obtain ⟨h1, h2, h3⟩ := h
  rw [List.take_of_length_le (by omega), List.take_of_length_le (by omega)] at h1
  obtain ⟨K, hK⟩ : ∃ K, M = K + 1 := ⟨M - 1, by omega⟩
  have a1 : natL A < 4294967296 ^ K := Nat.lt_of_lt_of_le (natL_lt A hA) (Nat.pow_le_pow_right (by decide) (by omega))
  have b1 : natL B < 4294967296 ^ K := Nat.lt_of_lt_of_le (natL_lt B hB) (Nat.pow_le_pow_right (by decide) (by omega))
  have hc : c = 0 := by
    apply Classical.byContradiction
    intro hc
    have c1 : c = 1 := by omega
    rw [c1, Nat.mul_one, hK, Nat.pow_succ] at h1
    omega
  rw [hc, Nat.mul_zero, Nat.add_zero] at h1
  exact h1
set_option maxRecDepth 4000 in
set_option maxHeartbeats 1000000 in
theorem dplus_any (A B : List Nat) (a b : Option Addr) (ca cb : Nat) (w : World) (hA : MagAt w a A) (hB : MagAt w b B) (dA : DigL A) (dB : DigL B) (hn : A.length ≤ 1000000) (hm : B.length ≤ 1000000) :
    Calls Tryz.prog 151 #[.slice a A.length ca, .slice b B.length cb] w fun r w' => MagOk (natL A + natL B) (max A.length B.length + 1) r w' ∧ Below w.heap.size w w' := by
  have HA := hid hA
  have HB := hid hB
  have HWA : Hid (∀ W k, Below w.heap.size w W → Calls Tryz.prog 169 #[.slice a A.length ca, .int .i64 (k : Nat)] W fun r w' => r = .returned (.int .u32 (A.getD k 0)) ∧ w' = W) := fun W k hb => word_any A a ca k W (hA.below hb)
  have HWB : Hid (∀ W k, Below w.heap.size w W → Calls Tryz.prog 169 #[.slice b B.length cb, .int .i64 (k : Nat)] W fun r w' => r = .returned (.int .u32 (B.getD k 0)) ∧ w' = W) := fun W k hb => word_any B b cb k W (hB.below hb)
  have HL : Hid (∀ o c, PInv A B o c (max A.length B.length + 1) → natF o (max A.length B.length + 1) = natL A + natL B) := fun o c h => h.last dA dB (by omega) (by omega)
  have HLE := hid (show max A.length B.length + 1 ≤ 1099511627776 by omega)
  obtain ⟨n, hnl⟩ : ∃ n, Hid (A.length = n) := ⟨_, rfl⟩
  obtain ⟨m, hml⟩ : ∃ m, Hid (B.length = m) := ⟨_, rfl⟩
  obtain ⟨M, hM⟩ : ∃ M, Hid (max n m + 1 = M) := ⟨_, rfl⟩
  rw [hnl.out] at hn HWA
  rw [hml.out] at hm HWB
  rw [hnl.out, hml.out, hM.out] at HL HLE
  rw [hnl.out, hml.out, hM.out]
  obtain ⟨X, hX⟩ : ∃ X, (n < m ∧ X = m) ∨ (¬ n < m ∧ X = n) := by
    by_cases h : n < m
    · exact ⟨m, Or.inl ⟨h, rfl⟩⟩
    · exact ⟨n, Or.inr ⟨h, rfl⟩⟩
  have hM1 : IntKind.i64.wrap ((X : Int) + 1) = (M : Int) := by have := hM.out; rw [IntWalk.i64_in _ (by omega)]; omega
  have hM2 : (X : Int) + 1 = (M : Int) := by have := hM.out; omega
  have hmk := run_make_row' (P := Tryz.prog) 39 92 (.int .u32 0) 4 Tryz.underlying39 infoU rfl .i64 .i64 M (by have := hM.out; omega) (by have := hM.out; omega)
  have HMB := hid (show M ≤ 1000001 by have := hM.out; omega)
  clear hA hB
  rcases hX with ⟨hnm, rfl⟩ | ⟨hnm, rfl⟩
  all_goals
    go_enter Tryz.func151, Tryz.ntmps151
    go_wp2
    go_loopw [6, 17] (fun cv i wr => ∃ (k c : Nat) (o : Nat → Nat), k ≤ M ∧ cv = .int .u32 c ∧ i = .int .i64 k ∧ Hid (wr.rowIs w.heap.size 92 M (fun j => .int .u32 (o j))) ∧ Hid (PInv A B o c k) ∧ Hid (Below w.heap.size w wr)) (fun _ i _ => M - (intOf i).toNat)
    case atStart => exact ⟨0, 0, fun _ => 0, Nat.zero_le _, rfl, rfl, World.rowIs_made w (.int .u32 0) M _, ⟨rfl, by decide, fun _ => (show 0 < 4294967296 by decide)⟩, (Below.refl _ _).alloc (Nat.le_refl _) _⟩
    case round =>
      obtain ⟨k, c, o, hkn, rfl, rfl, HR, HI, HBW⟩ := hrel
      by_cases hlt : k < M
      · have HST := hid (HI.out.step dA dB)
        have fx := HR.out.frozen
        have hlt2 := HR.out.lt
        have hkMI : (k : Int) < (M : Int) := by omega
        have cx := HR.out.cell (i := k) hlt
        have HAD := hid (fun (W : World) => add32_any (A.getD k 0) (B.getD k 0) c W (dA.get k) (dB.get k) HI.out.2.1)
        rw [show A.getD k 0 + B.getD k 0 + c = A.getD k 0 + c + B.getD k 0 by omega] at HAD
        obtain ⟨x, hx⟩ : ∃ x, Hid (A.getD k 0 = x) := ⟨_, rfl⟩
        obtain ⟨y, hy⟩ : ∃ y, Hid (B.getD k 0 = y) := ⟨_, rfl⟩
        have HA1 := hid (HWA.out wr k HBW.out)
        have HB1 := hid (HWB.out wr k HBW.out)
        rw [hx.out] at HA1 HAD HST
        rw [hy.out] at HB1 HAD HST
        obtain ⟨lo, hlo⟩ : ∃ lo, Hid ((x + c + y) % 4294967296 = lo) := ⟨_, rfl⟩
        obtain ⟨hi, hhi⟩ : ∃ hi, Hid ((x + c + y) / 4294967296 = hi) := ⟨_, rfl⟩
        rw [hlo.out, hhi.out] at HAD HST
        go_wp2_with fail
        refine HA1.out.mono ?_
        rintro r w1 ⟨rfl, rfl⟩
        go_wp2_with fail
        refine HB1.out.mono ?_
        rintro r w1 ⟨rfl, rfl⟩
        go_wp2_with fail
        refine (HAD.out _).mono ?_
        rintro r w1 ⟨rfl, rfl⟩
        go_wp2
        refine ⟨⟨k + 1, hi, _, by omega, rfl, by go_num, (HR.out.set k _).congr (fun j _ => row_if o k lo j), HST, Below.setCell HBW.out (Nat.le_refl _) _⟩, ?_⟩
        simp [intOf]; omega
      · have hkM : k = M := by omega
        subst hkM
        have HT := hid (trim_row o k w.heap.size _ wr HR.out (HL.out o c HI.out) HI.out.2.2 HLE.out)
        have HBE := HBW
        clear HR HI hlt
        go_wp2_with fail
        refine HT.out.mono ?_
        rintro r w1 ⟨hr, rfl⟩
        obtain ⟨L', a', cap', rfl, hr2⟩ := hr
        have HR2 := hid hr2
        clear hr2
        go_wp2
        go_ret
        exact ⟨⟨L', a', cap', rfl, HR2.out⟩, HBE.out⟩
theorem dif_eq (x y c : Nat) (hx : x < 4294967296) (hy : y < 4294967296) (hc : c ≤ 1) : c + y + dif x y c = x + 4294967296 * bor x y c ∧ dif x y c < 4294967296 ∧ bor x y c ≤ 1 := by
  unfold dif bor
  split <;> omega
set_option maxRecDepth 4000 in
set_option maxHeartbeats 1000000 in
theorem dminus_any (A B : List Nat) (a b : Option Addr) (ca cb : Nat) (w : World) (hA : MagAt w a A) (hB : MagAt w b B) (dA : DigL A) (dB : DigL B) (hl : B.length ≤ A.length) (hn : A.length ≤ 1000000) (hle : natL B ≤ natL A) :
    Calls Tryz.prog 140 #[.slice a A.length ca, .slice b B.length cb] w fun r w' => MagOk (natL A - natL B) A.length r w' ∧ Below w.heap.size w w' := by
  have HA := hid hA
  have HWB : Hid (∀ W k, Below w.heap.size w W → Calls Tryz.prog 169 #[.slice b B.length cb, .int .i64 (k : Nat)] W fun r w' => r = .returned (.int .u32 (B.getD k 0)) ∧ w' = W) := fun W k hb => word_any B b cb k W (hB.below hb)
  obtain ⟨n, hnl⟩ : ∃ n, Hid (A.length = n) := ⟨_, rfl⟩
  obtain ⟨m, hml⟩ : ∃ m, Hid (B.length = m) := ⟨_, rfl⟩
  rw [hnl.out] at hn hl ⊢
  rw [hml.out] at hl HWB ⊢
  have hmk := run_make_row' (P := Tryz.prog) 39 92 (.int .u32 0) 4 Tryz.underlying39 infoU rfl .i64 .i64 n (by omega) (by omega)
  have HFIN : Hid (∀ o c, MInv A B o c n → natF o n = natL A - natL B) := fun o c h => h.fin hnl.out (by rw [hml.out]; exact hl) hle
  clear hA hB hle
  go_enter Tryz.func140, Tryz.ntmps140
  go_wp2
  go_loopw [6, 13] (fun cv i wr => ∃ (k c : Nat) (o : Nat → Nat), k ≤ n ∧ cv = .int .u32 c ∧ i = .int .i64 k ∧ Hid (wr.rowIs w.heap.size 92 n (fun j => .int .u32 (o j))) ∧ Hid (MInv A B o c k) ∧ Hid (Below w.heap.size w wr)) (fun _ i _ => n - (intOf i).toNat)
  case atStart => exact ⟨0, 0, fun _ => 0, Nat.zero_le _, rfl, rfl, World.rowIs_made w (.int .u32 0) n _, ⟨rfl, by decide, fun _ => (show 0 < 4294967296 by decide)⟩, (Below.refl _ _).alloc (Nat.le_refl _) _⟩
  case round =>
    obtain ⟨k, c, o, hkn, rfl, rfl, HR, HI, HBW⟩ := hrel
    by_cases hlt : k < n
    · obtain ⟨ba, oa, rfl, hba, hca0⟩ := HA.out k (by rw [hnl.out]; exact hlt)
      have hca : wr.cell? ⟨ba, oa + k, none⟩ = some (.int .u32 (A.getD k 0)) := by
        rw [HBW.out.cell (p := ⟨ba, oa + k, none⟩) hba]
        exact hca0
      obtain ⟨e1, e2, e3⟩ := dif_eq (A.getD k 0) (B.getD k 0) c (dA.get k) (dB.get k) HI.out.2.1
      have HST := hid (HI.out.step e2 e3 e1)
      have HSU := hid (fun (W : World) => sub32_any (A.getD k 0) (B.getD k 0) c W (dA.get k) (dB.get k) HI.out.2.1)
      have fx := HR.out.frozen
      have hlt2 := HR.out.lt
      have hkMI : (k : Int) < (n : Int) := by omega
      have hk0 : (0 : Int) ≤ (k : Int) := by omega
      have cx := HR.out.cell (i := k) hlt
      have HB1 : Hid (∀ W, Hid (Below w.heap.size w W) → Calls Tryz.prog 169 #[.slice b m cb, .int .i64 (k : Nat)] W fun r w' => r = .returned (.int .u32 (B.getD k 0)) ∧ w' = W) := fun W hb => HWB.out W k hb.out
      have HBD : Hid (Below w.heap.size w wr.drew) := HBW.out.drew
      obtain ⟨x, hx⟩ : ∃ x, Hid (A.getD k 0 = x) := ⟨_, rfl⟩
      obtain ⟨y, hy⟩ : ∃ y, Hid (B.getD k 0 = y) := ⟨_, rfl⟩
      rw [hx.out] at hca HSU HST
      rw [hy.out] at HB1 HSU HST
      obtain ⟨D, hD⟩ : ∃ D, Hid (dif x y c = D) := ⟨_, rfl⟩
      obtain ⟨B', hB'⟩ : ∃ B', Hid (bor x y c = B') := ⟨_, rfl⟩
      rw [hD.out, hB'.out] at HSU HST
      have hne : ¬ ba = w.heap.size := by omega
      have hne2 : ¬ w.heap.size = ba := by omega
      clear hca0 hba e1 e2 e3
      go_wp2_with fail
      go_region_held3 (fun W => W.cell? ⟨ba, oa + k, none⟩ = some (.int .u32 x)) (go_keep)
        (first
          | (go_at_call 169; refine (HB1.out _ (by first | exact HBD | exact HBW)).mono ?_; rintro r w1 ⟨rfl, rfl⟩)
          | (go_at_call 168; refine (HSU.out _).mono ?_; rintro r w1 ⟨rfl, rfl⟩))
      all_goals go_wp2
      all_goals
        refine ⟨⟨k + 1, B', _, by omega, rfl, by go_num, (((HR.out.set k _).congr (fun j _ => row_if o k D j)).drew), HST, (Below.setCell HBW.out (Nat.le_refl _) _).drew⟩, ?_⟩
        simp [intOf]; omega
    · have hkM : k = n := by omega
      subst hkM
      have HT := hid (trim_row o k w.heap.size _ wr HR.out (HFIN.out o c HI.out) HI.out.2.2 (by omega))
      have HBE := HBW
      clear HR HI hlt
      go_wp2_with fail
      refine HT.out.mono ?_
      rintro r w1 ⟨hr, rfl⟩
      obtain ⟨L', a', cap', rfl, hr2⟩ := hr
      have HR2 := hid hr2
      clear hr2
      go_wp2
      go_ret
      exact ⟨⟨L', a', cap', rfl, HR2.out⟩, HBE.out⟩
end Go.Proofs.YtehnkgonhgjeiaaGreatDoor

namespace Go.Proofs.YtehnkgonhgjeiaaGreatDoor
open Go.RowKit Go.IntWalk

theorem or_words2 (d e : Nat) (hd : d < 4294967296) (he : e < 4294967296) : bits .or .u64 ((e : Int) * 4294967296) (d : Int) = ((d + 4294967296 * e : Nat) : Int) := by
  have e1 : (e : Int) * 4294967296 = ((e * 4294967296 : Nat) : Int) := by omega
  rw [e1, u64_or_nat (e * 4294967296) d (by omega) (by omega)]
  congr 1
  have := Nat.two_pow_add_eq_or_of_lt (i := 32) (b := d) (by simpa using hd) e
  rw [show e * 4294967296 = 2 ^ 32 * e by omega, ← this]
  simp only [Nat.reducePow]
  omega
set_option maxHeartbeats 400000 in
theorem dright_nil (a : Option Addr) (n cap q s : Nat) (w : World) (hs : s < 32) (hq : q ≤ 1000000) (hn : n ≤ q) :
    Calls Tryz.prog 148 #[.slice a n cap, .int .i64 ((32 * q + s : Nat) : Int)] w fun r w' => r = .returned (.slice none 0 0) ∧ w' = w := by
  obtain ⟨N, hN⟩ : ∃ N : Int, Hid (((32 * q + s : Nat) : Int) = N) := ⟨_, rfl⟩
  rw [hN.out]
  have hN0 : 0 ≤ N := by have := hN.out; omega
  have hN1 : N ≤ 100000000 := by have := hN.out; omega
  have hdiv : N / 32 = (q : Int) := by have := hN.out; omega
  have hle : (n : Int) ≤ (q : Int) := by omega
  have hqi : (q : Int) ≤ 1000000 := by omega
  clear hs hq
  go_enter Tryz.func148, Tryz.ntmps148
  go_wp2
  go_ret
  exact ⟨rfl, rfl⟩
set_option maxRecDepth 4000 in
set_option maxHeartbeats 1000000 in
theorem dright_loop (L : List Nat) (b off cap q s : Nat) (w : World) (hb : b < w.heap.size) (hcell : ∀ i, i < L.length → w.cell? ⟨b, off + i, none⟩ = some (.int .u32 (L.getD i 0))) (hmag : MagAt w (some ⟨b, off, none⟩) L) (h0 : q < L.length) (hs : s < 32) (hq : q ≤ 1000000) (hn : L.length ≤ 1000000) (hD : DigL L) :
    Calls Tryz.prog 148 #[.slice (some ⟨b, off, none⟩) L.length cap, .int .i64 ((32 * q + s : Nat) : Int)] w fun r w' => MagNew (natL L / 2 ^ (32 * q + s)) L.length w.heap.size r w' ∧ Below w.heap.size w w' := by
  have HC := hid hcell
  have HB := hid hb
  have HS := hid hs
  have HW : Hid (∀ W k, Below w.heap.size w W → Calls Tryz.prog 169 #[.slice (some ⟨b, off, none⟩) L.length cap, .int .i64 (k : Nat)] W fun r w' => r = .returned (.int .u32 (L.getD k 0)) ∧ w' = W) := fun W k hb => word_any L _ cap k W (hmag.below hb)
  obtain ⟨n, hnl⟩ : ∃ n, Hid (L.length = n) := ⟨_, rfl⟩
  rw [hnl.out] at hn h0 HW ⊢
  obtain ⟨N, hN⟩ : ∃ N : Int, Hid (((32 * q + s : Nat) : Int) = N) := ⟨_, rfl⟩
  rw [hN.out]
  have hN0 : 0 ≤ N := by have := hN.out; omega
  have hN1 : N ≤ 100000000 := by have := hN.out; omega
  have hdiv : N / 32 = (q : Int) := by have := hN.out; omega
  have hmod : N % 32 = (s : Int) := by have := hN.out; omega
  have hqn : ¬ (n : Int) ≤ (q : Int) := by omega
  obtain ⟨M, hM⟩ : ∃ M, Hid (n - q = M) := ⟨_, rfl⟩
  have hM1 : IntKind.i64.wrap ((n : Int) - (q : Int)) = (M : Int) := by have := hM.out; rw [IntWalk.i64_in _ (by omega)]; omega
  have hM2 : (n : Int) - (q : Int) = (M : Int) := by have := hM.out; omega
  have hMn : q + M = n := by have := hM.out; omega
  have hmk := run_make_row' (P := Tryz.prog) 39 92 (.int .u32 0) 4 Tryz.underlying39 infoU rfl .i64 .i64 M (by have := hM.out; omega) (by have := hM.out; omega)
  have HMN := hid hMn
  clear hcell h0 hb hs hMn hmag
  go_enter Tryz.func148, Tryz.ntmps148
  go_wp2
  go_loopw [25] (fun i wr => ∃ (k : Nat), k ≤ M ∧ i = .int .i64 k ∧ Hid (wr.rowIs w.heap.size 92 M (fun j => .int .u32 ((if j < k then rWord L q s j else 0 : Nat) : Int))) ∧ Hid (Below w.heap.size w wr)) (fun i _ => M - (intOf i).toNat)
  case atStart => exact ⟨0, Nat.zero_le _, rfl, (World.rowIs_made w (.int .u32 0) M _).congr (fun j _ => by rw [if_neg (Nat.not_lt_zero j)]; rfl), (Below.refl _ _).alloc (Nat.le_refl _) _⟩
  case round =>
    obtain ⟨k, hkM, rfl, HR, HBW⟩ := hrel
    by_cases hlt : k < M
    · obtain ⟨P, hP⟩ : ∃ P, Hid (q + k = P) := ⟨_, rfl⟩
      have hPn : P < n := by have := hP.out; have := HMN.out; omega
      have hPI : (P : Int) < (n : Int) := by omega
      have hP0 : (0 : Int) ≤ (P : Int) := by omega
      have hP1 : IntKind.i64.wrap ((q : Int) + (k : Int)) = (P : Int) := by have := hP.out; rw [IntWalk.i64_in _ (by omega)]; omega
      have hP2 : (q : Int) + (k : Int) = (P : Int) := by have := hP.out; omega
      have hP3 : IntKind.i64.wrap ((P : Int) + 1) = (P : Int) + 1 := by rw [IntWalk.i64_in _ (by omega)]
      have hP4 : IntKind.i64.wrap (P : Int) = (P : Int) := by rw [IntWalk.i64_in _ (by omega)]
      have hck : wr.cell? ⟨b, off + P, none⟩ = some (.int .u32 (L.getD P 0)) := by
        rw [HBW.out.cell (p := ⟨b, off + P, none⟩) HB.out]
        exact HC.out P (by rw [hnl.out]; exact hPn)
      have hdl := hD.get P
      have hel := hD.get (P + 1)
      have hrw := rWord_is L hD q s k HS.out
      rw [hP.out] at hrw
      have hmin : min s 64 = s := Nat.min_eq_left (by have := HS.out; omega)
      have hkI : (k : Int) < (M : Int) := by omega
      have hk0 : (0 : Int) ≤ (k : Int) := by omega
      have fx := HR.out.frozen
      have hlt2 := HR.out.lt
      have cx := HR.out.cell (i := k) (by omega)
      rw [if_neg (Nat.lt_irrefl k)] at cx
      have HW1 : Hid (∀ W, Hid (Below w.heap.size w W) → Calls Tryz.prog 169 #[.slice (some ⟨b, off, none⟩) n cap, .int .i64 ((P : Int) + 1)] W fun r w' => r = .returned (.int .u32 (L.getD (P + 1) 0)) ∧ w' = W) := fun W hb => HW.out W (P + 1) hb.out
      obtain ⟨d, hd⟩ : ∃ d, Hid (L.getD P 0 = d) := ⟨_, rfl⟩
      rw [hd.out] at hck hdl hrw
      have hwd : IntKind.u64.wrap (d : Int) = (d : Int) := by rw [IntKind.wrap_u64]; omega
      obtain ⟨r, hr⟩ : ∃ r, Hid (rWord L q s k = r) := ⟨_, rfl⟩
      have HROW : Hid (∀ j, (if j = k then Value.int .u32 (r : Int) else Value.int .u32 ((if j < k then rWord L q s j else 0 : Nat) : Int)) = Value.int .u32 ((if j < k + 1 then rWord L q s j else 0 : Nat) : Int)) := fun j => right_row L q s k r j hr.out
      rw [hr.out] at hrw
      have HF : Hid (wr.rowIs w.heap.size 92 M (fun j => .int .u32 ((if j < k then rWord L q s j else 0 : Nat) : Int)) ∧ Below w.heap.size w wr) := ⟨HR.out, HBW.out⟩
      have HBD : Hid (Below w.heap.size w wr.drew) := HBW.out.drew
      have HBWc := HBW
      clear HR HBW hr
      obtain ⟨e, he⟩ : ∃ e, Hid (L.getD (P + 1) 0 = e) := ⟨_, rfl⟩
      rw [he.out] at HW1 hel hrw
      have hwe : IntKind.u64.wrap (e : Int) = (e : Int) := by rw [IntKind.wrap_u64]; omega
      have hwe2 : IntKind.u64.wrap ((e : Int) * 4294967296) = (e : Int) * 4294967296 := by rw [IntKind.wrap_u64]; omega
      have hor := or_words2 d e hdl hel
      obtain ⟨T, hT⟩ : ∃ T, Hid (d + 4294967296 * e = T) := ⟨_, rfl⟩
      rw [hT.out] at hor hrw
      have hsh : IntKind.u32.wrap ((T : Int) / 2 ^ s) = (r : Int) := by
        rw [IntKind.wrap_u32, show ((T : Int) / 2 ^ s) = ((T / 2 ^ s : Nat) : Int) by rw [Int.natCast_ediv, Int.natCast_pow]; rfl]
        omega
      clear hdl hel hrw
      go_wp2_with fail
      go_region_held3 (fun W => W.cell? ⟨b, off + P, none⟩ = some (.int .u32 d)) (go_keep)
        ((go_at_call 169; refine (HW1.out _ (by first | exact HBD | exact HBWc)).mono ?_; rintro r w1 ⟨rfl, rfl⟩))
      all_goals go_wp2
      all_goals
        refine ⟨⟨k + 1, by omega, by go_num, (HF.out.1.drew.set k _).congr (fun j _ => HROW.out j), Below.setCell HF.out.2.drew (Nat.le_refl _) _⟩, ?_⟩
        simp [intOf]; omega
    · have hkn' : k = M := by omega
      subst hkn'
      have HR2 : Hid (wr.rowIs w.heap.size 92 k (fun j => .int .u32 (rWord L q s j))) := HR.out.congr (fun j hj => by rw [if_pos hj])
      have HT := hid (trim_new (rWord L q s) k w.heap.size _ wr HR2.out (right_val L hD q s k (by rw [hnl.out]; have := HMN.out; omega)) (fun j => Nat.mod_lt _ (by decide)) (by have := HMN.out; omega))
      clear HR
      go_wp2_with fail
      refine HT.out.mono ?_
      rintro r w1 ⟨hr, rfl⟩
      obtain ⟨L', a', cap', rfl, hr2⟩ := hr
      have HE : Hid (MagNew (natL L / 2 ^ (32 * q + s)) n w.heap.size (.returned (.slice a' L'.length cap')) w1) := ⟨L', a', cap', rfl, ⟨hr2.1.1, by have := hr2.1.2.1; have := HMN.out; omega, hr2.1.2.2⟩, hr2.2⟩
      clear hr2
      go_wp2
      go_ret
      exact ⟨HE.out, HBW.out⟩
theorem dright_any (L : List Nat) (a : Option Addr) (cap q s : Nat) (w : World) (hm : MagAt w a L) (hs : s < 32) (hq : q ≤ 1000000) (hn : L.length ≤ 1000000) (hD : DigL L) :
    Calls Tryz.prog 148 #[.slice a L.length cap, .int .i64 ((32 * q + s : Nat) : Int)] w fun r w' => MagNew (natL L / 2 ^ (32 * q + s)) L.length w.heap.size r w' ∧ Below w.heap.size w w' := by
  by_cases h0 : q < L.length
  · obtain ⟨b, off, rfl, hb, _⟩ := hm 0 (by omega)
    refine dright_loop L b off cap q s w hb (fun i hi => ?_) hm h0 hs hq hn hD
    obtain ⟨b', off', e, _, hc⟩ := hm i hi
    cases e
    exact hc
  · refine (dright_nil a L.length cap q s w hs hq (by omega)).mono ?_
    rintro r w' ⟨rfl, rfl⟩
    refine ⟨?_, Below.refl _ _⟩
    have e : natL L / 2 ^ (32 * q + s) = 0 := by
      rw [Nat.pow_add, ← pow32, ← Nat.div_div_eq_div_mul, natL_div L hD, List.drop_eq_nil_of_le (by omega)]
      exact Nat.zero_div _
    rw [e]
    exact ⟨[], none, 0, rfl, ⟨Nat.zero_le _, Nat.zero_le _, fun _ hi => absurd hi (Nat.not_lt_zero _), fun _ hd => absurd hd List.not_mem_nil, fun h => absurd rfl h, rfl⟩, fun _ h => by cases h⟩
end Go.Proofs.YtehnkgonhgjeiaaGreatDoor

namespace Go.Proofs.YtehnkgonhgjeiaaGreatDoor
open Go.RowKit Go.IntWalk

/-- What holds ahead of the k-th round: the words told so far, and what is carried. -/
def DLInv (L : List Nat) (q s : Nat) (o : Nat → Nat) (c k : Nat) : Prop := natF o (q + k) + 4294967296 ^ (q + k) * c = natL (L.take k) * 2 ^ (32 * q + s) ∧ c < 2 ^ s ∧ ∀ j, o j < 4294967296
theorem DLInv.zero (L : List Nat) (q s : Nat) : DLInv L q s (fun _ => 0) 0 0 := ⟨by rw [natF_zero]; show 0 + _ * 0 = 0 * _; rw [Nat.mul_zero, Nat.zero_mul], Nat.two_pow_pos s, fun _ => (show 0 < 4294967296 by decide)⟩
theorem DLInv.step {L : List Nat} {q s : Nat} {o : Nat → Nat} {c k : Nat} (h : DLInv L q s o c k) (hk : k < L.length) (hs : s < 32) (hD : DigL L) : DLInv L q s (fun j => if j = q + k then (c + L.getD k 0 * 2 ^ s) % 4294967296 else o j) ((c + L.getD k 0 * 2 ^ s) / 4294967296) (k + 1) ∧ c + L.getD k 0 * 2 ^ s < 18446744073709551616 := by
  obtain ⟨h1, h2, h3⟩ := h
  obtain ⟨t1, t2, t3, t4⟩ := shl_lt (L.getD k 0) s (hD.get k) hs
  have hd := hD.get k
  have hp := Nat.two_pow_pos s
  have hb : c + L.getD k 0 * 2 ^ s < 4294967296 * 2 ^ s := by
    have : (L.getD k 0 + 1) * 2 ^ s ≤ 4294967296 * 2 ^ s := Nat.mul_le_mul_right _ hd
    rw [Nat.add_mul, Nat.one_mul] at this
    omega
  refine ⟨⟨?_, ?_, fun j => ?_⟩, ?_⟩
  · rw [natL_take_succ L k hk, Nat.add_mul, ← h1, ← Nat.add_assoc]
    show natF _ (q + k) + 4294967296 ^ (q + k) * (if q + k = q + k then _ else o (q + k)) + _ = _
    rw [if_pos rfl, natF_congr _ o (q + k) (fun j hj => if_neg (by omega)), Nat.pow_succ]
    obtain ⟨t, ht⟩ : ∃ t, L.getD k 0 * 2 ^ s = t := ⟨_, rfl⟩
    have e1 : 4294967296 ^ k * L.getD k 0 * 2 ^ (32 * q + s) = 4294967296 ^ (q + k) * t := by
      rw [← ht, pow32, pow32, Nat.mul_assoc, Nat.pow_add]
      rw [show L.getD k 0 * (2 ^ (32 * q) * 2 ^ s) = 2 ^ (32 * q) * (L.getD k 0 * 2 ^ s) by rw [Nat.mul_left_comm]]
      rw [← Nat.mul_assoc, ← Nat.pow_add]
      congr 2
      omega
    rw [e1, ht]
    have e := Nat.div_add_mod (c + t) 4294967296
    obtain ⟨Q, hQ⟩ : ∃ Q, (c + t) / 4294967296 = Q := ⟨_, rfl⟩
    obtain ⟨R, hR⟩ : ∃ R, (c + t) % 4294967296 = R := ⟨_, rfl⟩
    rw [hQ, hR] at e ⊢
    have e2 : 4294967296 ^ (q + k) * (4294967296 * Q + R) = 4294967296 ^ (q + k) * (c + t) := by rw [e]
    rw [Nat.mul_add, Nat.mul_add, ← Nat.mul_assoc] at e2
    omega
  · rw [Nat.div_lt_iff_lt_mul (by decide), Nat.mul_comm (2 ^ s)]
    exact hb
  · show (if j = q + k then _ else o j) < _
    split
    · exact Nat.mod_lt _ (by decide)
    · exact h3 j
  · have : 4294967296 * 2 ^ s ≤ 4294967296 * 4294967296 := Nat.mul_le_mul_left _ t4
    omega
theorem or_carry (c t s : Nat) (hs : s < 32) (hc : c < 2 ^ s) (ht : t < 18446744073709551616) (hm : t % 2 ^ s = 0) : bits .or .u64 (c : Int) (t : Int) = ((c + t : Nat) : Int) := by
  have h1 : (2 : Nat) ^ s ≤ 2 ^ 32 := Nat.pow_le_pow_right (by decide) (by omega)
  have h32 : (2 : Nat) ^ 32 = 4294967296 := by decide
  rw [u64_or_nat c t (by omega) ht]
  congr 1
  obtain ⟨d, hd⟩ : ∃ d, t = 2 ^ s * d := ⟨t / 2 ^ s, by have := Nat.div_add_mod t (2 ^ s); omega⟩
  rw [hd, Nat.or_comm, Nat.add_comm]
  exact (Nat.two_pow_add_eq_or_of_lt hc d).symm
set_option maxRecDepth 4000 in
set_option maxHeartbeats 1000000 in
theorem dleft_any (L : List Nat) (a : Option Addr) (cap q s : Nat) (w : World) (hmag : MagAt w a L) (hs : s < 32) (hq : q ≤ 1000000) (hn : L.length ≤ 1000000) (hD : DigL L) :
    Calls Tryz.prog 176 #[.slice a L.length cap, .int .i64 ((32 * q + s : Nat) : Int)] w fun r w' => MagOk (natL L * 2 ^ (32 * q + s)) (L.length + q + 1) r w' ∧ Below w.heap.size w w' := by
  have HA := hid hmag
  have HS := hid hs
  obtain ⟨n, hnl⟩ : ∃ n, Hid (L.length = n) := ⟨_, rfl⟩
  rw [hnl.out] at hn ⊢
  obtain ⟨N, hN⟩ : ∃ N : Int, Hid (((32 * q + s : Nat) : Int) = N) := ⟨_, rfl⟩
  rw [hN.out]
  have hN0 : 0 ≤ N := by have := hN.out; omega
  have hN1 : N ≤ 100000000 := by have := hN.out; omega
  have hdiv : N / 32 = (q : Int) := by have := hN.out; omega
  have hmod : N % 32 = (s : Int) := by have := hN.out; omega
  obtain ⟨X, hX⟩ : ∃ X, Hid (n + q = X) := ⟨_, rfl⟩
  obtain ⟨M, hM⟩ : ∃ M, Hid (X + 1 = M) := ⟨_, rfl⟩
  have hX1 : IntKind.i64.wrap ((n : Int) + (q : Int)) = (X : Int) := by have := hX.out; rw [IntWalk.i64_in _ (by omega)]; omega
  have hX2 : (n : Int) + (q : Int) = (X : Int) := by have := hX.out; omega
  have hM1 : IntKind.i64.wrap ((X : Int) + 1) = (M : Int) := by have := hX.out; have := hM.out; rw [IntWalk.i64_in _ (by omega)]; omega
  have hM2 : (X : Int) + 1 = (M : Int) := by have := hM.out; omega
  have hXb : (X : Int) ≤ 2000000 := by have := hX.out; omega
  have hmk := run_make_row' (P := Tryz.prog) 39 92 (.int .u32 0) 4 Tryz.underlying39 infoU rfl .i64 .i64 M (by have := hX.out; have := hM.out; omega) (by have := hX.out; have := hM.out; omega)
  have HMX := hid (show M ≤ 2000001 by have := hX.out; have := hM.out; omega)
  have hqI : (q : Int) ≤ 1000000 := by omega
  rw [hX.out, hM.out]
  clear hmag hs
  go_enter Tryz.func176, Tryz.ntmps176
  go_wp2
  go_loopw [8, 23] (fun cv i wr => ∃ (k c : Nat) (o : Nat → Nat), k ≤ n ∧ cv = .int .u64 c ∧ i = .int .i64 k ∧ Hid (wr.rowIs w.heap.size 92 M (fun j => .int .u32 (o j))) ∧ Hid (DLInv L q s o c k) ∧ Hid (Below w.heap.size w wr)) (fun _ i _ => n - (intOf i).toNat)
  case atStart => exact ⟨0, 0, fun _ => 0, Nat.zero_le _, rfl, rfl, World.rowIs_made w (.int .u32 0) M _, DLInv.zero L q s, (Below.refl _ _).alloc (Nat.le_refl _) _⟩
  case round =>
    obtain ⟨k, c, o, hkn, rfl, rfl, HR, HI, HBW⟩ := hrel
    by_cases hlt : k < n
    · obtain ⟨ba, oa, rfl, hba, hca0⟩ := HA.out k (by rw [hnl.out]; exact hlt)
      have hca : wr.cell? ⟨ba, oa + k, none⟩ = some (.int .u32 (L.getD k 0)) := by
        rw [HBW.out.cell (p := ⟨ba, oa + k, none⟩) hba]
        exact hca0
      obtain ⟨st, sb⟩ := HI.out.step (by rw [hnl.out]; exact hlt) HS.out hD
      obtain ⟨t1, t2, t3, t4⟩ := shl_lt (L.getD k 0) s (hD.get k) HS.out
      have hcs := HI.out.2.1
      have hd := hD.get k
      have t5 : L.getD k 0 * 2 ^ s % 2 ^ s = 0 := Nat.mul_mod_left _ _
      have hwt := shl_wb (L.getD k 0) s t1
      have hor := or_carry c (L.getD k 0 * 2 ^ s) s HS.out hcs t1 t5
      obtain ⟨x, hx⟩ : ∃ x, Hid (L.getD k 0 = x) := ⟨_, rfl⟩
      rw [hx.out] at hca hwt hor st sb hd t1
      obtain ⟨T, hT⟩ : ∃ T, Hid (x * 2 ^ s = T) := ⟨_, rfl⟩
      rw [hT.out] at hwt hor st sb t1
      obtain ⟨S, hS⟩ : ∃ S, Hid (c + T = S) := ⟨_, rfl⟩
      rw [hS.out] at hor st sb
      have hwx : IntKind.u64.wrap (x : Int) = (x : Int) := by rw [IntKind.wrap_u64]; omega
      have hmin : min s 64 = s := Nat.min_eq_left (by have := HS.out; omega)
      have hlo : IntKind.u32.wrap (S : Int) = ((S % 4294967296 : Nat) : Int) := by rw [IntKind.wrap_u32]; omega
      have hhi : (S : Int) / 4294967296 = ((S / 4294967296 : Nat) : Int) := by omega
      obtain ⟨lo, hlo'⟩ : ∃ lo, Hid (S % 4294967296 = lo) := ⟨_, rfl⟩
      obtain ⟨hi, hhi'⟩ : ∃ hi, Hid (S / 4294967296 = hi) := ⟨_, rfl⟩
      rw [hlo'.out] at hlo st
      rw [hhi'.out] at hhi st
      obtain ⟨P, hP⟩ : ∃ P, Hid (q + k = P) := ⟨_, rfl⟩
      rw [hP.out] at st
      have HST := hid st
      have hPM : P < M := by have := hP.out; have := hX.out; have := hM.out; omega
      have hP1 : IntKind.i64.wrap ((q : Int) + (k : Int)) = (P : Int) := by have := hP.out; rw [IntWalk.i64_in _ (by omega)]; omega
      have hP2 : (q : Int) + (k : Int) = (P : Int) := by have := hP.out; omega
      have hPMI : (P : Int) < (M : Int) := by omega
      have fx := HR.out.frozen
      have hlt2 := HR.out.lt
      have cx := HR.out.cell (i := P) hPM
      have hknI : (k : Int) < (n : Int) := by omega
      clear hca0 hba st sb t1 t2 t3 t4 t5 hcs hd
      go_wp2
      refine ⟨⟨k + 1, hi, _, by omega, rfl, by go_num, (HR.out.set P _).congr (fun j _ => row_if o P lo j), HST, Below.setCell HBW.out (Nat.le_refl _) _⟩, ?_⟩
      simp [intOf]; omega
    · have hkn' : k = n := by omega
      subst hkn'
      have hcs := HI.out.2.1
      have fx := HR.out.frozen
      have hlt2 := HR.out.lt
      have hXM : X < M := by have := hM.out; omega
      have hXMI : (X : Int) < (M : Int) := by omega
      have cx := HR.out.cell (i := X) hXM
      have hc32 : c < 4294967296 := by
        have h1 : (2 : Nat) ^ s ≤ 2 ^ 32 := Nat.pow_le_pow_right (by decide) (by have := HS.out; omega)
        have h32 : (2 : Nat) ^ 32 = 4294967296 := by decide
        omega
      have hwc : IntKind.u32.wrap (c : Int) = (c : Int) := by rw [IntKind.wrap_u32]; omega
      obtain ⟨p, hp⟩ : ∃ p : Nat → Nat, Hid (p = fun j => if j = X then c else o j) := ⟨_, rfl⟩
      have HR2 : Hid ((wr.setCell ⟨w.heap.size, X, none⟩ (.int .u32 (c : Int))).rowIs w.heap.size 92 M (fun j => .int .u32 (p j))) := by
        rw [hp.out]
        exact (HR.out.set X _).congr (fun j _ => row_if o X c j)
      have HBW2 : Hid (Below w.heap.size w (wr.setCell ⟨w.heap.size, X, none⟩ (.int .u32 (c : Int)))) := Below.setCell HBW.out (Nat.le_refl _) _
      have HV : Hid (natF p M = natL L * 2 ^ (32 * q + s) ∧ ∀ j, p j < 4294967296) := by
        obtain ⟨i1, i2, i3⟩ := HI.out
        rw [List.take_of_length_le (by rw [hnl.out]; exact Nat.le_refl _), show q + k = X by have := hX.out; omega] at i1
        rw [← hM.out, hp.out]
        refine ⟨?_, fun j => ?_⟩
        · show natF _ X + 4294967296 ^ X * (if X = X then c else o X) = _
          rw [if_pos rfl, natF_congr _ o X (fun j hj => if_neg (by omega)), i1]
        · show (if j = X then c else o j) < _
          split
          · exact hc32
          · exact i3 j
      have HT := hid (trim_row p M w.heap.size _ _ HR2.out HV.out.1 HV.out.2 (by have := HMX.out; omega))
      clear HR HI hp hcs hc32
      go_wp2_with fail
      refine HT.out.mono ?_
      rintro r w1 ⟨hr, rfl⟩
      obtain ⟨L', a', cap', rfl, hr2⟩ := hr
      have HE := hid hr2
      clear hr2
      go_wp2
      go_ret
      exact ⟨⟨L', a', cap', rfl, HE.out⟩, HBW2.out⟩
end Go.Proofs.YtehnkgonhgjeiaaGreatDoor

namespace Go.Proofs.YtehnkgonhgjeiaaGreatDoor
open Go.RowKit Go.IntWalk

set_option maxHeartbeats 400000 in
theorem notnan_int (a : Int) (w : World) :
    Calls Tryz.prog 183 #[.int .i64 a] w fun e w' => e = .returned (.bool false) ∧ w' = w := by
  go_enter Tryz.func183, Tryz.ntmps183
  go_wp2
  go_ret
  exact ⟨by simp, rfl⟩
set_option maxHeartbeats 400000 in
theorem notnan_u32 (a : Int) (w : World) :
    Calls Tryz.prog 184 #[.int .u32 a] w fun e w' => e = .returned (.bool false) ∧ w' = w := by
  go_enter Tryz.func184, Tryz.ntmps184
  go_wp2
  go_ret
  exact ⟨by simp, rfl⟩
set_option maxHeartbeats 400000 in
theorem cmp_int (a b : Nat) (w : World) :
    Calls Tryz.prog 166 #[.int .i64 a, .int .i64 b] w fun e w' => e = .returned (.int .i64 (cmpI a b)) ∧ w' = w := by
  rcases Nat.lt_trichotomy a b with h | h | h
  · rw [cmpI_lt h]
    have h1 : (a : Int) < (b : Int) := by omega
    clear h
    go_enter Tryz.func166, Tryz.ntmps166
    go_wp2_with (first | (go_at_call 183; refine (notnan_int _ _).mono ?_; rintro e w' ⟨rfl, rfl⟩))
    go_ret
    exact ⟨rfl, rfl⟩
  · rw [cmpI_eq h]
    subst h
    have h1 : ¬ (a : Int) < (a : Int) := by omega
    go_enter Tryz.func166, Tryz.ntmps166
    go_wp2_with (first | (go_at_call 183; refine (notnan_int _ _).mono ?_; rintro e w' ⟨rfl, rfl⟩))
    go_ret
    exact ⟨rfl, rfl⟩
  · rw [cmpI_gt h]
    have h1 : ¬ (a : Int) < (b : Int) := by omega
    have h2 : (b : Int) < (a : Int) := by omega
    clear h
    go_enter Tryz.func166, Tryz.ntmps166
    go_wp2_with (first | (go_at_call 183; refine (notnan_int _ _).mono ?_; rintro e w' ⟨rfl, rfl⟩))
    go_ret
    exact ⟨rfl, rfl⟩
set_option maxHeartbeats 400000 in
theorem cmp_u32 (a b : Nat) (w : World) :
    Calls Tryz.prog 167 #[.int .u32 a, .int .u32 b] w fun e w' => e = .returned (.int .i64 (cmpI a b)) ∧ w' = w := by
  rcases Nat.lt_trichotomy a b with h | h | h
  · rw [cmpI_lt h]
    have h1 : (a : Int) < (b : Int) := by omega
    clear h
    go_enter Tryz.func167, Tryz.ntmps167
    go_wp2_with (first | (go_at_call 184; refine (notnan_u32 _ _).mono ?_; rintro e w' ⟨rfl, rfl⟩))
    go_ret
    exact ⟨rfl, rfl⟩
  · rw [cmpI_eq h]
    subst h
    have h1 : ¬ (a : Int) < (a : Int) := by omega
    go_enter Tryz.func167, Tryz.ntmps167
    go_wp2_with (first | (go_at_call 184; refine (notnan_u32 _ _).mono ?_; rintro e w' ⟨rfl, rfl⟩))
    go_ret
    exact ⟨rfl, rfl⟩
  · rw [cmpI_gt h]
    have h1 : ¬ (a : Int) < (b : Int) := by omega
    have h2 : (b : Int) < (a : Int) := by omega
    clear h
    go_enter Tryz.func167, Tryz.ntmps167
    go_wp2_with (first | (go_at_call 184; refine (notnan_u32 _ _).mono ?_; rintro e w' ⟨rfl, rfl⟩))
    go_ret
    exact ⟨rfl, rfl⟩
set_option maxHeartbeats 1000000 in
theorem dcompare_nil (a b : Option Addr) (ca cb : Nat) (w : World) :
    Calls Tryz.prog 139 #[.slice a 0 ca, .slice b 0 cb] w fun r w' => r = .returned (.int .i64 0) ∧ w' = w := by
  go_enter Tryz.func139, Tryz.ntmps139
  go_wp2
  refine wp_loop_rounds 1 ?_
  rw [rounds_succ]
  go_wp2
  go_ret
  exact ⟨rfl, rfl⟩
set_option maxHeartbeats 1000000 in
theorem dcompare_same (A B : List Nat) (ba oa bb ob ca cb n : Nat) (w : World) (hA : ∀ i, i < n → w.cell? ⟨ba, oa + i, none⟩ = some (.int .u32 (A.getD i 0))) (hB : ∀ i, i < n → w.cell? ⟨bb, ob + i, none⟩ = some (.int .u32 (B.getD i 0))) (dA : DigL A) (dB : DigL B) (hnA : A.length = n) (hnB : B.length = n) (hn : n ≤ 1000000) :
    Calls Tryz.prog 139 #[.slice (some ⟨ba, oa, none⟩) n ca, .slice (some ⟨bb, ob, none⟩) n cb] w fun r w' => r = .returned (.int .i64 (cmpI (natL A) (natL B))) ∧ Below w.heap.size w w' := by
  have HA := hid hA
  have HB := hid hB
  have HNA := hid hnA
  have HNB := hid hnB
  have HD : Hid (A.drop n = B.drop n) := by
    show A.drop n = B.drop n
    rw [List.drop_eq_nil_of_le (by omega), List.drop_eq_nil_of_le (by omega)]
  obtain ⟨c, hc⟩ : ∃ c, Hid (cmpI (natL A) (natL B) = c) := ⟨_, rfl⟩
  rw [hc.out]
  clear hA hB hnA hnB
  go_enter Tryz.func139, Tryz.ntmps139
  go_wp2
  go_loopw [5] (fun i wr => ∃ (j : Nat), j ≤ n ∧ i = .int .i64 ((j : Int) - 1) ∧ Hid (A.drop j = B.drop j) ∧ Hid (Below w.heap.size w wr)) (fun i _ => (intOf i + 1).toNat)
  case atStart => exact ⟨n, Nat.le_refl _, rfl, HD, Below.refl _ _⟩
  case round =>
    obtain ⟨j, hj, rfl, HE, HBW⟩ := hrel
    by_cases hj0 : j = 0
    · subst hj0
      have hcz : c = 0 := by
        rw [← hc.out]
        have := HE.out
        rw [List.drop_zero, List.drop_zero] at this
        exact cmpI_eq (by rw [this])
      subst hcz
      go_wp2
      go_ret
      exact ⟨rfl, HBW.out⟩
    · obtain ⟨k, rfl⟩ : ∃ k, j = k + 1 := ⟨j - 1, by omega⟩
      have hk1 : ((k + 1 : Nat) : Int) - 1 = (k : Int) := by omega
      have hkI : (k : Int) < (n : Int) := by omega
      have hca : wr.cell? ⟨ba, oa + k, none⟩ = some (.int .u32 (A.getD k 0)) := by
        rw [HBW.out.cell (p := ⟨ba, oa + k, none⟩) (World.block_lt_of_cell? w _ (HA.out k (by omega)))]
        exact HA.out k (by omega)
      have hcb : wr.cell? ⟨bb, ob + k, none⟩ = some (.int .u32 (B.getD k 0)) := by
        rw [HBW.out.cell (p := ⟨bb, ob + k, none⟩) (World.block_lt_of_cell? w _ (HB.out k (by omega)))]
        exact HB.out k (by omega)
      have hcmp := natL_cmp A B dA k (by rw [HNA.out]; omega) (by rw [HNB.out]; omega) HE.out (by rw [HNA.out, HNB.out])
      have hcmp2 := natL_cmp B A dB k (by rw [HNB.out]; omega) (by rw [HNA.out]; omega) HE.out.symm (by rw [HNA.out, HNB.out])
      have hstep := drop_step A B k (by rw [HNA.out]; omega) (by rw [HNB.out]; omega) HE.out
      have hC := hc.out
      obtain ⟨x, hx⟩ : ∃ x, Hid (A.getD k 0 = x) := ⟨_, rfl⟩
      obtain ⟨y, hy⟩ : ∃ y, Hid (B.getD k 0 = y) := ⟨_, rfl⟩
      rw [hx.out] at hca hcmp hcmp2 hstep
      rw [hy.out] at hcb hcmp hcmp2 hstep
      rw [hk1]
      rcases Nat.lt_trichotomy x y with h | h | h
      · have hC2 := cmpI_lt (hcmp h)
        have hxy : cmpI x y = c := by rw [← hC, hC2, cmpI_lt h]
        have hne : ((x : Int) == (y : Int)) = false := by simp; omega
        have HC3 := hid (fun (W : World) => cmp_u32 x y W)
        rw [hxy] at HC3
        clear hcmp hcmp2 hstep h HE hk1 hC2 hC hxy
        go_wp2_with fail
        go_quiet (fail)
        go_wp2_with fail
        go_region_held3 (fun W => W.cell? ⟨ba, oa + k, none⟩ = some (.int .u32 x) ∧ W.cell? ⟨bb, ob + k, none⟩ = some (.int .u32 y)) (go_keep)
          ((go_at_call 167; refine (HC3.out _).mono ?_; rintro r w1 ⟨rfl, rfl⟩))
        go_wp2
        go_ret
        refine ⟨rfl, ?_⟩
        repeat (first | exact HBW.out | refine bl_drewN _ ?_ | refine Below.drew ?_)
      · subst h
        have HS := hid (hstep rfl)
        clear hcmp hcmp2 hstep HE hC
        go_wp2_with fail
        go_quiet (fail)
        go_wp2
        refine ⟨⟨k, by omega, rfl, HS, ?_⟩, by simp [intOf]⟩
        repeat (first | exact HBW.out | refine bl_drewN _ ?_ | refine Below.drew ?_)
      · have hC2 := cmpI_gt (hcmp2 h)
        have hxy : cmpI x y = c := by rw [← hC, hC2, cmpI_gt h]
        have hne : ((x : Int) == (y : Int)) = false := by simp; omega
        have HC3 := hid (fun (W : World) => cmp_u32 x y W)
        rw [hxy] at HC3
        clear hcmp hcmp2 hstep h HE hk1 hC2 hC hxy
        go_wp2_with fail
        go_quiet (fail)
        go_wp2_with fail
        go_region_held3 (fun W => W.cell? ⟨ba, oa + k, none⟩ = some (.int .u32 x) ∧ W.cell? ⟨bb, ob + k, none⟩ = some (.int .u32 y)) (go_keep)
          ((go_at_call 167; refine (HC3.out _).mono ?_; rintro r w1 ⟨rfl, rfl⟩))
        go_wp2
        go_ret
        refine ⟨rfl, ?_⟩
        repeat (first | exact HBW.out | refine bl_drewN _ ?_ | refine Below.drew ?_)
set_option maxHeartbeats 1000000 in
theorem dcompare_any (A B : List Nat) (a b : Option Addr) (ca cb : Nat) (w : World) (hA : MagAt w a A) (hB : MagAt w b B) (dA : DigL A) (dB : DigL B) (cA : CanL A) (cB : CanL B) (hnA : A.length ≤ 1000000) (hnB : B.length ≤ 1000000) :
    Calls Tryz.prog 139 #[.slice a A.length ca, .slice b B.length cb] w fun r w' => r = .returned (.int .i64 (cmpI (natL A) (natL B))) ∧ Below w.heap.size w w' := by
  by_cases hl : A.length = B.length
  · by_cases h0 : B.length = 0
    · rw [hl, h0, cmpI_eq (by rw [List.length_eq_zero_iff.1 h0, List.length_eq_zero_iff.1 (hl.trans h0)])]
      refine (dcompare_nil a b ca cb w).mono ?_
      rintro r w' ⟨rfl, rfl⟩
      exact ⟨rfl, Below.refl _ _⟩
    · obtain ⟨ba, oa, rfl, _, _⟩ := hA 0 (by omega)
      obtain ⟨bb, ob, rfl, _, _⟩ := hB 0 (by omega)
      rw [hl]
      refine dcompare_same A B ba oa bb ob ca cb B.length w (fun i hi => ?_) (fun i hi => ?_) dA dB hl rfl hnB
      · obtain ⟨b', off', e, _, hc⟩ := hA i (by omega)
        cases e
        exact hc
      · obtain ⟨b', off', e, _, hc⟩ := hB i (by omega)
        cases e
        exact hc
  · have hres : cmpI (natL A) (natL B) = cmpI A.length B.length := by
      by_cases hlt : A.length < B.length
      · rw [cmpI_lt (natL_shorter A B dA cB hlt), cmpI_lt hlt]
      · rw [cmpI_gt (natL_shorter B A dB cA (by omega)), cmpI_gt (by omega)]
    rw [hres]
    have HC3 := hid (fun (W : World) => cmp_int A.length B.length W)
    obtain ⟨n, hn⟩ : ∃ n, Hid (A.length = n) := ⟨_, rfl⟩
    obtain ⟨m, hm⟩ : ∃ m, Hid (B.length = m) := ⟨_, rfl⟩
    rw [hn.out, hm.out] at HC3 hl ⊢
    obtain ⟨c, hc⟩ : ∃ c, Hid (cmpI n m = c) := ⟨_, rfl⟩
    rw [hc.out] at HC3 ⊢
    have hne : ((n : Int) == (m : Int)) = false := by simp; omega
    clear hA hB dA dB cA cB hnA hnB hl hres
    go_enter Tryz.func139, Tryz.ntmps139
    go_wp2_with fail
    refine (HC3.out _).mono ?_
    rintro r w1 ⟨rfl, rfl⟩
    go_wp2
    go_ret
    exact ⟨rfl, Below.refl _ _⟩
end Go.Proofs.YtehnkgonhgjeiaaGreatDoor

namespace Go.Proofs.YtehnkgonhgjeiaaGreatDoor
open Go.RowKit Go.IntWalk

end Go.Proofs.YtehnkgonhgjeiaaGreatDoor
