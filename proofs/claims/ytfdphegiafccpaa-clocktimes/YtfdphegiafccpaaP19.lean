
/- What the document's minus does. -/
import Derived.Test.YtfdphegiafccpaaP18
namespace Go.Proofs.Ytfdphegiafccpaa
open Go.RowKit Go.IntWalk

/-- What holds ahead of the k-th round of minus. -/
def MInv (A B : List Nat) (o : Nat → Nat) (c k : Nat) : Prop := natF o k + natL (B.take k) = natL (A.take k) + 4294967296 ^ k * c ∧ c ≤ 1 ∧ ∀ j, o j < 4294967296
theorem MInv.step {A B : List Nat} {o : Nat → Nat} {c k r c' : Nat} (h : MInv A B o c k) (hr : r < 4294967296) (hc : c' ≤ 1) (e : c + B.getD k 0 + r = A.getD k 0 + 4294967296 * c') : MInv A B (fun j => if j = k then r else o j) c' (k + 1) := by
  obtain ⟨h1, h2, h3⟩ := h
  refine ⟨?_, hc, fun j => ?_⟩
  · rw [natL_take_any, natL_take_any]
    show natF _ k + 4294967296 ^ k * (if k = k then r else o k) + _ = _
    rw [if_pos rfl, natF_congr _ o k (fun j hj => if_neg (by omega)), Nat.pow_succ]
    have e2 : 4294967296 ^ k * (c + B.getD k 0 + r) = 4294967296 ^ k * (A.getD k 0 + 4294967296 * c') := by rw [e]
    rw [Nat.mul_add, Nat.mul_add, Nat.mul_add, ← Nat.mul_assoc] at e2
    omega
  · show (if j = k then r else o j) < _
    split
    · exact hr
    · exact h3 j
theorem natF_lt (o : Nat → Nat) (n : Nat) (h : ∀ j, o j < 4294967296) : natF o n < 4294967296 ^ n := by
  have := natL_lt ((List.range n).map o) (fun d hd => by obtain ⟨i, _, rfl⟩ := List.mem_map.1 hd; exact h i)
  rwa [natF_list, List.length_map, List.length_range] at this
theorem MInv.fin {A B : List Nat} {o : Nat → Nat} {c n : Nat} (h : MInv A B o c n) (hA : A.length = n) (hB : B.length ≤ n) (hle : natL B ≤ natL A) : natF o n = natL A - natL B := by
  obtain ⟨h1, h2, h3⟩ := h
  rw [List.take_of_length_le (by omega), List.take_of_length_le (by omega)] at h1
  have hlt := natF_lt o n h3
  have hc : c = 0 := by
    apply Classical.byContradiction
    intro hc
    have : c = 1 := by omega
    rw [this, Nat.mul_one] at h1
    omega
  rw [hc, Nat.mul_zero] at h1
  omega
set_option maxRecDepth 4000 in
set_option maxHeartbeats 1000000 in
theorem minus_loop (A B : List Nat) (a b : Option Addr) (ca cb : Nat) (w : World) (hA : MagAt w a A) (hB : MagAt w b B) (dA : DigL A) (dB : DigL B) (hl : B.length ≤ A.length) (hn : A.length ≤ 1000000) (hle : natL B ≤ natL A) :
    Calls Try.prog 49 #[.slice a A.length ca, .slice b B.length cb] w fun r w' => MagOk (natL A - natL B) A.length r w' ∧ Below w.heap.size w w' := by
  have HA := hid hA
  have HB := hid hB
  obtain ⟨n, hnl⟩ : ∃ n, Hid (A.length = n) := ⟨_, rfl⟩
  obtain ⟨m, hml⟩ : ∃ m, Hid (B.length = m) := ⟨_, rfl⟩
  rw [hnl.out] at hn hl ⊢
  rw [hml.out] at hl ⊢
  have hmk := run_make_row' (P := Try.prog) 51 33 (.int .u32 0) 4 Try.underlying51 infoU rfl .i64 .i64 n (by omega) (by omega)
  have HFIN : Hid (∀ o c, MInv A B o c n → natF o n = natL A - natL B) := fun o c h => h.fin hnl.out (by rw [hml.out]; exact hl) hle
  clear hA hB hle
  go_enter Try.func49, Try.ntmps49
  go_wp2
  go_loopw [6, 7] (fun cv i wr => ∃ (k c : Nat) (o : Nat → Nat), k ≤ n ∧ cv = .int .u64 c ∧ i = .int .i64 k ∧ Hid (wr.rowIs w.heap.size 33 n (fun j => .int .u32 (o j))) ∧ Hid (MInv A B o c k) ∧ Hid (Below w.heap.size w wr)) (fun _ i _ => n - (intOf i).toNat)
  case atStart => exact ⟨0, 0, fun _ => 0, Nat.zero_le _, rfl, rfl, World.rowIs_made w (.int .u32 0) n _, ⟨rfl, by decide, fun _ => (show 0 < 4294967296 by decide)⟩, (Below.refl _ _).alloc (Nat.le_refl _) _⟩
  case round =>
    obtain ⟨k, c, o, hkn, rfl, rfl, HR, HI, HBW⟩ := hrel
    by_cases hlt : k < n
    · obtain ⟨ba, oa, rfl, hba, hca0⟩ := HA.out k (by rw [hnl.out]; exact hlt)
      have hca : wr.cell? ⟨ba, oa + k, none⟩ = some (.int .u32 (A.getD k 0)) := by
        rw [HBW.out.cell (p := ⟨ba, oa + k, none⟩) hba]
        exact hca0
      have hda := dA.get k
      have hdb := dB.get k
      have hc1 := HI.out.2.1
      have fx := HR.out.frozen
      have hlt2 := HR.out.lt
      have hknI : (k : Int) < (n : Int) := by omega
      have cx := HR.out.cell (i := k) hlt
      obtain ⟨x, hx⟩ : ∃ x, Hid (A.getD k 0 = x) := ⟨_, rfl⟩
      obtain ⟨y, hy⟩ : ∃ y, Hid (B.getD k 0 = y) := ⟨_, rfl⟩
      rw [hx.out] at hca hda
      rw [hy.out] at hdb
      have hwx : IntKind.u64.wrap (x : Int) = (x : Int) := by rw [IntKind.wrap_u64]; omega
      have hwy : IntKind.u64.wrap (y : Int) = (y : Int) := by rw [IntKind.wrap_u64]; omega
      clear hca0 hba
      by_cases hkm : k < m
      · obtain ⟨bb, ob, rfl, hbb, hcb0⟩ := HB.out k (by rw [hml.out]; exact hkm)
        have hcb : wr.cell? ⟨bb, ob + k, none⟩ = some (.int .u32 (B.getD k 0)) := by
          rw [HBW.out.cell (p := ⟨bb, ob + k, none⟩) hbb]
          exact hcb0
        rw [hy.out] at hcb
        have hkmI : (k : Int) < (m : Int) := by omega
        obtain ⟨Y, hY⟩ : ∃ Y, Hid (c + y = Y) := ⟨_, rfl⟩
        have hYb : Y ≤ 4294967296 := by have := hY.out; omega
        have hs1 : IntKind.u64.wrap ((c : Int) + (y : Int)) = (Y : Int) := by have := hY.out; rw [IntKind.wrap_u64]; omega
        have hs2 : (c : Int) + (y : Int) = (Y : Int) := by have := hY.out; omega
        clear hcb0 hbb
        by_cases hxy : x < Y
        · obtain ⟨r, hr⟩ : ∃ r, Hid (x + 4294967296 - Y = r) := ⟨_, rfl⟩
          have hxI : (x : Int) < (Y : Int) := by omega
          have hr1 : IntKind.u64.wrap (IntKind.u64.wrap ((x : Int) + 4294967296) - (Y : Int)) = (r : Int) := by have := hr.out; rw [IntKind.wrap_u64, IntKind.wrap_u64]; omega
          have hr2 : IntKind.u32.wrap (r : Int) = (r : Int) := by have := hr.out; rw [IntKind.wrap_u32]; omega
          have hr3 : (x : Int) + 4294967296 - (Y : Int) = (r : Int) := by have := hr.out; omega
          have hr4 : IntKind.u64.wrap (Y : Int) = (Y : Int) := by rw [IntKind.wrap_u64]; omega
          have hr5 : IntKind.u64.wrap ((x : Int) + 4294967296) = (x : Int) + 4294967296 := by rw [IntKind.wrap_u64]; omega
          have hr6 : (r : Int) % 4294967296 = (r : Int) := by have := hr.out; omega
          have hr7 : IntKind.u64.wrap (r : Int) = (r : Int) := by have := hr.out; rw [IntKind.wrap_u64]; omega
          have HST : Hid (MInv A B (fun j => if j = k then r else o j) 1 (k + 1)) := HI.out.step (by have := hr.out; omega) (by decide) (by rw [hx.out, hy.out]; have := hr.out; have := hY.out; omega)
          clear hda hdb hc1 hxy hYb
          go_wp2
          refine ⟨⟨k + 1, 1, _, by omega, rfl, by go_num, (HR.out.set k _).congr (fun j _ => row_if o k r j), HST, Below.setCell HBW.out (Nat.le_refl _) _⟩, ?_⟩
          simp [intOf]; omega
        · obtain ⟨r, hr⟩ : ∃ r, Hid (x - Y = r) := ⟨_, rfl⟩
          have hxI : ¬ (x : Int) < (Y : Int) := by omega
          have hr1 : IntKind.u64.wrap ((x : Int) - (Y : Int)) = (r : Int) := by have := hr.out; rw [IntKind.wrap_u64]; omega
          have hr2 : IntKind.u32.wrap (r : Int) = (r : Int) := by have := hr.out; rw [IntKind.wrap_u32]; omega
          have hr3 : (x : Int) - (Y : Int) = (r : Int) := by have := hr.out; omega
          have hr4 : IntKind.u64.wrap (Y : Int) = (Y : Int) := by rw [IntKind.wrap_u64]; omega
          have hr6 : (r : Int) % 4294967296 = (r : Int) := by have := hr.out; omega
          have hr7 : IntKind.u64.wrap (r : Int) = (r : Int) := by have := hr.out; rw [IntKind.wrap_u64]; omega
          have HST : Hid (MInv A B (fun j => if j = k then r else o j) 0 (k + 1)) := HI.out.step (by have := hr.out; omega) (by decide) (by rw [hx.out, hy.out]; have := hr.out; have := hY.out; omega)
          clear hda hdb hc1 hxy hYb
          go_wp2
          refine ⟨⟨k + 1, 0, _, by omega, rfl, by go_num, (HR.out.set k _).congr (fun j _ => row_if o k r j), HST, Below.setCell HBW.out (Nat.le_refl _) _⟩, ?_⟩
          simp [intOf]; omega
      · have hy0 : y = 0 := by
          rw [← hy.out]
          have hn' : ¬ k < B.length := by rw [hml.out]; exact hkm
          simp [List.getD, hn']
        have hkmI : ¬ (k : Int) < (m : Int) := by omega
        have hY : Hid (c + y = c) := by show c + y = c; omega
        have hYb : c ≤ 1 := hc1
        clear hy0
        by_cases hxy : x < c
        · obtain ⟨r, hr⟩ : ∃ r, Hid (x + 4294967296 - c = r) := ⟨_, rfl⟩
          have hxI : (x : Int) < (c : Int) := by omega
          have hr1 : IntKind.u64.wrap (IntKind.u64.wrap ((x : Int) + 4294967296) - (c : Int)) = (r : Int) := by have := hr.out; rw [IntKind.wrap_u64, IntKind.wrap_u64]; omega
          have hr2 : IntKind.u32.wrap (r : Int) = (r : Int) := by have := hr.out; rw [IntKind.wrap_u32]; omega
          have hr3 : (x : Int) + 4294967296 - (c : Int) = (r : Int) := by have := hr.out; omega
          have hr4 : IntKind.u64.wrap (c : Int) = (c : Int) := by rw [IntKind.wrap_u64]; omega
          have hr5 : IntKind.u64.wrap ((x : Int) + 4294967296) = (x : Int) + 4294967296 := by rw [IntKind.wrap_u64]; omega
          have hr6 : (r : Int) % 4294967296 = (r : Int) := by have := hr.out; omega
          have hr7 : IntKind.u64.wrap (r : Int) = (r : Int) := by have := hr.out; rw [IntKind.wrap_u64]; omega
          have HST : Hid (MInv A B (fun j => if j = k then r else o j) 1 (k + 1)) := HI.out.step (by have := hr.out; omega) (by decide) (by rw [hx.out, hy.out]; have := hr.out; have := hY.out; omega)
          clear hda hdb hc1 hxy hYb
          go_wp2
          refine ⟨⟨k + 1, 1, _, by omega, rfl, by go_num, (HR.out.set k _).congr (fun j _ => row_if o k r j), HST, Below.setCell HBW.out (Nat.le_refl _) _⟩, ?_⟩
          simp [intOf]; omega
        · obtain ⟨r, hr⟩ : ∃ r, Hid (x - c = r) := ⟨_, rfl⟩
          have hxI : ¬ (x : Int) < (c : Int) := by omega
          have hr1 : IntKind.u64.wrap ((x : Int) - (c : Int)) = (r : Int) := by have := hr.out; rw [IntKind.wrap_u64]; omega
          have hr2 : IntKind.u32.wrap (r : Int) = (r : Int) := by have := hr.out; rw [IntKind.wrap_u32]; omega
          have hr3 : (x : Int) - (c : Int) = (r : Int) := by have := hr.out; omega
          have hr4 : IntKind.u64.wrap (c : Int) = (c : Int) := by rw [IntKind.wrap_u64]; omega
          have hr6 : (r : Int) % 4294967296 = (r : Int) := by have := hr.out; omega
          have hr7 : IntKind.u64.wrap (r : Int) = (r : Int) := by have := hr.out; rw [IntKind.wrap_u64]; omega
          have HST : Hid (MInv A B (fun j => if j = k then r else o j) 0 (k + 1)) := HI.out.step (by have := hr.out; omega) (by decide) (by rw [hx.out, hy.out]; have := hr.out; have := hY.out; omega)
          clear hda hdb hc1 hxy hYb
          go_wp2
          refine ⟨⟨k + 1, 0, _, by omega, rfl, by go_num, (HR.out.set k _).congr (fun j _ => row_if o k r j), HST, Below.setCell HBW.out (Nat.le_refl _) _⟩, ?_⟩
          simp [intOf]; omega
    · have hkn' : k = n := by omega
      subst hkn'
      have HV := hid (HFIN.out o c HI.out)
      have HDO : Hid (∀ j, o j < 4294967296) := HI.out.2.2
      have HL := hid (show ((List.range k).map o).length = k by rw [List.length_map, List.length_range])
      have HCUT := hid (bcut_any ((List.range k).map o) (some ⟨w.heap.size, 0, none⟩) k wr (row_mag wr _ k _ o HR.out) (by rw [HL.out]; exact Nat.le_refl _) (by rw [HL.out]; omega))
      rw [HL.out] at HCUT
      clear HI
      go_wp2_with fail
      refine HCUT.out.mono ?_
      rintro r w1 ⟨⟨j, hj, rfl, hv, he⟩, rfl⟩
      have hDo : DigL ((List.range k).map o) := by
        intro d hd
        obtain ⟨i, _, rfl⟩ := List.mem_map.1 hd
        exact HDO.out i
      obtain ⟨hcan, hlen⟩ := can_take _ j (by rw [HL.out]; exact hj) he
      have HF : Hid (MagOk (natL A - natL B) k (.returned (.slice (some ⟨w.heap.size, 0, none⟩) j k)) w1) := by
        refine ⟨((List.range k).map o).take j, _, k, by rw [hlen], by rw [hlen]; exact hj, by rw [hlen]; exact hj, (row_mag _ _ k _ _ HR.out).take j, hDo.take j, hcan, ?_⟩
        rw [hv, natF_list]
        exact HV.out
      clear hv he hcan hlen hDo hj
      go_wp2
      go_ret
      exact ⟨HF.out, HBW.out⟩
theorem minus_any (A B : List Nat) (a b : Option Addr) (ca cb : Nat) (w : World) (hA : MagAt w a A) (hB : MagAt w b B) (dA : DigL A) (dB : DigL B) (cB : CanL B) (hn : A.length ≤ 1000000) (hle : natL B ≤ natL A) :
    Calls Try.prog 49 #[.slice a A.length ca, .slice b B.length cb] w fun r w' => MagOk (natL A - natL B) A.length r w' ∧ Below w.heap.size w w' := by
  refine minus_loop A B a b ca cb w hA hB dA dB ?_ hn hle
  apply Classical.byContradiction
  intro h
  have := natL_shorter A B dA cB (by omega)
  omega
end Go.Proofs.Ytfdphegiafccpaa
