
/- matrix: Equal of any two of one shape. (Written by mkmxq.py.) -/
import Derived.Test.YtokeialkeadanaaP33
namespace Go.Proofs.Ytokeialkeadanaa
open Go.RowKit Go.IntWalk

/-- Whether numbers are alike, place by place. -/
def eqF (n : Nat) (f g : Nat → Nat) : Bool := (List.range n).all fun k => canonOf (f k) == canonOf (g k)
theorem eqF_iff (n : Nat) (f g : Nat → Nat) : eqF n f g = true ↔ ∀ k, k < n → canonOf (f k) = canonOf (g k) := by
  unfold eqF
  rw [List.all_eq_true]
  constructor
  · intro h k hk
    simpa using h k (List.mem_range.2 hk)
  · intro h k hk
    simpa using h k (List.mem_range.1 hk)
theorem eqF_no {n : Nat} {f g : Nat → Nat} {k : Nat} (hk : k < n) (h : ¬ canonOf (f k) = canonOf (g k)) : eqF n f g = false := by
  cases hc : eqF n f g with
  | false => rfl
  | true => exact absurd ((eqF_iff n f g).1 hc k hk) h
set_option maxHeartbeats 2000000 in
theorem Equal_any (r c : Int) (sa sb : Option Addr) (n ca cb : Nat) (f g : Nat → Nat) (w : World) (ha : FnM w sa n ca f) (hb : FnM w sb n cb g) :
    Calls Try.prog 32 #[MV r c sa n ca, MV r c sb n cb] w fun e w' => e = .returned (.bool (eqF n f g)) ∧ Below w.heap.size w w' := by
  obtain ⟨t1, t2, t3, t4⟩ := two_b w (MBox r c sa n ca) (MBox r c sb n cb)
  have hne : ((n : Int) != (n : Int)) = false := by simp
  have hnr : ((r : Int) != (r : Int)) = false := by simp
  have hnc : ((c : Int) != (c : Int)) = false := by simp
  have HA := hid (ha.below t3)
  have HB := hid (hb.below t3)
  obtain ⟨V, hV⟩ : ∃ V, Hid ((w.alloc (MBox r c sa n ca)).alloc (MBox r c sb n cb) = V) := ⟨_, rfl⟩
  rw [hV.out] at HA HB t1 t2 t3 t4
  have hV' := hV.out
  have HBV := hid t3
  have HA0 := hid t1
  have HA1 := hid t2
  obtain ⟨x0, x1, x2⟩ := mcells_of t1
  obtain ⟨v0, v1, v2⟩ := mcells_of t2
  unfold MBox at hV'
  unfold MV
  clear t1 t2 t3 t4 ha hb
  go_enter Try.func32, Try.ntmps32
  go_wp2_with fail
  have HF0 : Hid (Fr3 V V w.heap.size (w.heap.size + 1) (MBox r c sa n ca) (MBox r c sb n cb)) := ⟨Below.refl _ _, HA0.out, HA1.out⟩
  go_loopw [30] (fun iv wr => ∃ k : Nat, k ≤ n ∧ iv = .int .i64 k ∧ Hid (Fr3 V wr w.heap.size (w.heap.size + 1) (MBox r c sa n ca) (MBox r c sb n cb)) ∧ Hid (∀ j, j < k → canonOf (f j) = canonOf (g j))) (fun iv _ => n - (intOf iv).toNat)
  case atStart => exact ⟨0, Nat.zero_le _, rfl, HF0, fun j hj => absurd hj (Nat.not_lt_zero j)⟩
  case round =>
    obtain ⟨k, hk, rfl, HFW, HP⟩ := hrel
    by_cases hlt : k < n
    · rcases HA.out with ⟨_, h2, _⟩ | ⟨b, off, rfl, q1, _, _, q4⟩
      · omega
      rcases HB.out with ⟨_, h2, _⟩ | ⟨b2, off2, rfl, q5, _, _, q8⟩
      · omega
      have HKS : Hid (∀ W, Hid (Fr3 V W w.heap.size (w.heap.size + 1) (MBox r c (some ⟨b, off, none⟩) n ca) (MBox r c (some ⟨b2, off2, none⟩) n cb)) → (W.cell? ⟨b, off + k, none⟩ = some (.float .f64 (f k)) ∧ W.cell? ⟨b2, off2 + k, none⟩ = some (.float .f64 (g k)) ∧ W.cell? ⟨w.heap.size, 2, none⟩ = some (.slice (some ⟨b, off, none⟩) n ca) ∧ W.cell? ⟨w.heap.size + 1, 2, none⟩ = some (.slice (some ⟨b2, off2, none⟩) n cb)) ∧ Hid (Fr3 V W w.heap.size (w.heap.size + 1) (MBox r c (some ⟨b, off, none⟩) n ca) (MBox r c (some ⟨b2, off2, none⟩) n cb))) := fun W hW => ⟨⟨(hW.out.1.cell (p := ⟨b, off + k, none⟩) q1).trans (q4 k hlt).1, (hW.out.1.cell (p := ⟨b2, off2 + k, none⟩) q5).trans (q8 k hlt).1, (mcells_of hW.out.2.1).2.2, (mcells_of hW.out.2.2).2.2⟩, hW⟩
      by_cases heq : canonOf (f k) = canonOf (g k)
      · have HSM : Hid (∀ W, Calls Try.prog 63 #[.float .f64 (f k), .float .f64 (g k)] W fun e w' => e = .returned (.bool true) ∧ Below W.heap.size W w') := fun W => by
          have := Same_any (f k) (g k) W (q4 k hlt).2 (q8 k hlt).2
          rw [show (canonOf (f k) == canonOf (g k)) = true by simpa using heq] at this
          exact this
        obtain ⟨x, hxx⟩ : ∃ x, Hid (f k = x) := ⟨_, rfl⟩
        obtain ⟨y, hyy⟩ : ∃ y, Hid (g k = y) := ⟨_, rfl⟩
        have HEQ := hid heq
        rw [hxx.out, hyy.out] at HKS
        rw [hxx.out, hyy.out] at HSM
        have hkI : (k : Int) < (n : Int) := by omega
        have hk0 : (0 : Int) ≤ (k : Int) := by omega
        have HQ0 : Hid (Fr3 V wr.drew w.heap.size (w.heap.size + 1) (MBox r c (some ⟨b, off, none⟩) n ca) (MBox r c (some ⟨b2, off2, none⟩) n cb)) := HFW.out.drew
        have HK := hid hlt
        clear q1 q4 q5 q8 hlt heq
        go_wp2_with fail
        refine wp_region_held_drew (S := fun W => (W.cell? ⟨b, off + k, none⟩ = some (.float .f64 x) ∧ W.cell? ⟨b2, off2 + k, none⟩ = some (.float .f64 y) ∧ W.cell? ⟨w.heap.size, 2, none⟩ = some (.slice (some ⟨b, off, none⟩) n ca) ∧ W.cell? ⟨w.heap.size + 1, 2, none⟩ = some (.slice (some ⟨b2, off2, none⟩) n cb)) ∧ Hid (Fr3 V W w.heap.size (w.heap.size + 1) (MBox r c (some ⟨b, off, none⟩) n ca) (MBox r c (some ⟨b2, off2, none⟩) n cb))) (by kernel_rfl) (HKS.out _ HQ0) (fun hHeld => ?_)
        refine take_at 0 33 (.pointer (some ⟨w.heap.size, 2, none⟩)) rfl rfl (by kernel_rfl) (by kernel_rfl) (by kernel_rfl) (fun _ _ _ h => h) (Or.inl ⟨by rfl, fun w hSw => by (try dsimp only at hSw); go_simp⟩) (by assumption) ?_
        simp only [Act.put, List.setIfInBounds_toArray, List.set_cons_zero, List.set_cons_succ]
        refine take_at 1 34 (.slice (some ⟨b, off, none⟩) n ca) rfl rfl (by kernel_rfl) (by kernel_rfl) (by kernel_rfl) (fun _ _ _ h => h) (Or.inl ⟨by rfl, fun w hSw => by (try dsimp only at hSw); go_simp⟩) (by assumption) ?_
        simp only [Act.put, List.setIfInBounds_toArray, List.set_cons_zero, List.set_cons_succ]
        refine take_at 2 35 (.int .i64 k) rfl rfl (by kernel_rfl) (by kernel_rfl) (by kernel_rfl) (fun _ _ _ h => h) (Or.inl ⟨by rfl, fun w hSw => by (try dsimp only at hSw); go_simp⟩) (by assumption) ?_
        simp only [Act.put, List.setIfInBounds_toArray, List.set_cons_zero, List.set_cons_succ]
        refine take_at 3 36 (.pointer (some ⟨b, off + k, none⟩)) rfl rfl (by kernel_rfl) (by kernel_rfl) (by kernel_rfl) (fun _ _ _ h => h) (Or.inl ⟨by rfl, fun w hSw => by (try dsimp only at hSw); go_simp⟩) (by assumption) ?_
        simp only [Act.put, List.setIfInBounds_toArray, List.set_cons_zero, List.set_cons_succ]
        refine take_at 4 37 (.float .f64 x) rfl rfl (by kernel_rfl) (by kernel_rfl) (by kernel_rfl) (fun _ _ _ h => h) (Or.inl ⟨by rfl, fun w hSw => by (try dsimp only at hSw); go_simp⟩) (by assumption) ?_
        simp only [Act.put, List.setIfInBounds_toArray, List.set_cons_zero, List.set_cons_succ]
        refine take_at 5 38 (.pointer (some ⟨w.heap.size + 1, 2, none⟩)) rfl rfl (by kernel_rfl) (by kernel_rfl) (by kernel_rfl) (fun _ _ _ h => h) (Or.inl ⟨by rfl, fun w hSw => by (try dsimp only at hSw); go_simp⟩) (by assumption) ?_
        simp only [Act.put, List.setIfInBounds_toArray, List.set_cons_zero, List.set_cons_succ]
        refine take_at 6 39 (.slice (some ⟨b2, off2, none⟩) n cb) rfl rfl (by kernel_rfl) (by kernel_rfl) (by kernel_rfl) (fun _ _ _ h => h) (Or.inl ⟨by rfl, fun w hSw => by (try dsimp only at hSw); go_simp⟩) (by assumption) ?_
        simp only [Act.put, List.setIfInBounds_toArray, List.set_cons_zero, List.set_cons_succ]
        refine take_at 7 40 (.int .i64 k) rfl rfl (by kernel_rfl) (by kernel_rfl) (by kernel_rfl) (fun _ _ _ h => h) (Or.inl ⟨by rfl, fun w hSw => by (try dsimp only at hSw); go_simp⟩) (by assumption) ?_
        simp only [Act.put, List.setIfInBounds_toArray, List.set_cons_zero, List.set_cons_succ]
        refine take_at 8 41 (.pointer (some ⟨b2, off2 + k, none⟩)) rfl rfl (by kernel_rfl) (by kernel_rfl) (by kernel_rfl) (fun _ _ _ h => h) (Or.inl ⟨by rfl, fun w hSw => by (try dsimp only at hSw); go_simp⟩) (by assumption) ?_
        simp only [Act.put, List.setIfInBounds_toArray, List.set_cons_zero, List.set_cons_succ]
        refine take_at 9 42 (.float .f64 y) rfl rfl (by kernel_rfl) (by kernel_rfl) (by kernel_rfl) (fun _ _ _ h => h) (Or.inl ⟨by rfl, fun w hSw => by (try dsimp only at hSw); go_simp⟩) (by assumption) ?_
        simp only [Act.put, List.setIfInBounds_toArray, List.set_cons_zero, List.set_cons_succ]
        refine wpAnyH_ready (rs := [10]) (by kernel_rfl) (by simp) ?_
        refine AllReadyH.cons (o := _) rfl (fun K hK => ?_) AllReadyH.nil
        go_simp
        refine (HSM.out _).mono ?_
        rintro e u1 ⟨rfl, hb1⟩
        have HG1 := hid (HQ0.out.call hb1)
        clear hb1
        go_wp2_with fail
        refine hK.out _ _ (HKS.out _ HG1) (fun hHeld1 => ?_)
        clear hK K
        try simp only [Act.put, List.setIfInBounds_toArray, List.set_cons_zero, List.set_cons_succ]
        refine take_at 11 44 (.bool false) rfl rfl (by kernel_rfl) (by kernel_rfl) (by kernel_rfl) (fun _ _ _ h => h) (Or.inl ⟨by rfl, fun w hSw => by (try dsimp only at hSw); go_simp⟩) (by assumption) ?_
        simp only [Act.put, List.setIfInBounds_toArray, List.set_cons_zero, List.set_cons_succ]
        refine wpAnyH_done (by kernel_rfl) ?_ _
        go_wp2_with fail
        have hk1 := HK.out
        refine ⟨⟨k + 1, by omega, by go_num, HG1, fun j hj => ?_⟩, ?_⟩
        · by_cases hjk : j = k
          · rw [hjk]; exact HEQ.out
          · exact HP.out j (by omega)
        · simp [intOf]; omega
      · have HSM : Hid (∀ W, Calls Try.prog 63 #[.float .f64 (f k), .float .f64 (g k)] W fun e w' => e = .returned (.bool false) ∧ Below W.heap.size W w') := fun W => by
          have := Same_any (f k) (g k) W (q4 k hlt).2 (q8 k hlt).2
          rw [show (canonOf (f k) == canonOf (g k)) = false by simpa using heq] at this
          exact this
        obtain ⟨x, hxx⟩ : ∃ x, Hid (f k = x) := ⟨_, rfl⟩
        obtain ⟨y, hyy⟩ : ∃ y, Hid (g k = y) := ⟨_, rfl⟩
        have HEQ := hid heq
        rw [hxx.out, hyy.out] at HKS
        rw [hxx.out, hyy.out] at HSM
        have hkI : (k : Int) < (n : Int) := by omega
        have hk0 : (0 : Int) ≤ (k : Int) := by omega
        have HQ0 : Hid (Fr3 V wr.drew w.heap.size (w.heap.size + 1) (MBox r c (some ⟨b, off, none⟩) n ca) (MBox r c (some ⟨b2, off2, none⟩) n cb)) := HFW.out.drew
        have HK := hid hlt
        clear q1 q4 q5 q8 hlt heq
        go_wp2_with fail
        refine wp_region_held_drew (S := fun W => (W.cell? ⟨b, off + k, none⟩ = some (.float .f64 x) ∧ W.cell? ⟨b2, off2 + k, none⟩ = some (.float .f64 y) ∧ W.cell? ⟨w.heap.size, 2, none⟩ = some (.slice (some ⟨b, off, none⟩) n ca) ∧ W.cell? ⟨w.heap.size + 1, 2, none⟩ = some (.slice (some ⟨b2, off2, none⟩) n cb)) ∧ Hid (Fr3 V W w.heap.size (w.heap.size + 1) (MBox r c (some ⟨b, off, none⟩) n ca) (MBox r c (some ⟨b2, off2, none⟩) n cb))) (by kernel_rfl) (HKS.out _ HQ0) (fun hHeld => ?_)
        refine take_at 0 33 (.pointer (some ⟨w.heap.size, 2, none⟩)) rfl rfl (by kernel_rfl) (by kernel_rfl) (by kernel_rfl) (fun _ _ _ h => h) (Or.inl ⟨by rfl, fun w hSw => by (try dsimp only at hSw); go_simp⟩) (by assumption) ?_
        simp only [Act.put, List.setIfInBounds_toArray, List.set_cons_zero, List.set_cons_succ]
        refine take_at 1 34 (.slice (some ⟨b, off, none⟩) n ca) rfl rfl (by kernel_rfl) (by kernel_rfl) (by kernel_rfl) (fun _ _ _ h => h) (Or.inl ⟨by rfl, fun w hSw => by (try dsimp only at hSw); go_simp⟩) (by assumption) ?_
        simp only [Act.put, List.setIfInBounds_toArray, List.set_cons_zero, List.set_cons_succ]
        refine take_at 2 35 (.int .i64 k) rfl rfl (by kernel_rfl) (by kernel_rfl) (by kernel_rfl) (fun _ _ _ h => h) (Or.inl ⟨by rfl, fun w hSw => by (try dsimp only at hSw); go_simp⟩) (by assumption) ?_
        simp only [Act.put, List.setIfInBounds_toArray, List.set_cons_zero, List.set_cons_succ]
        refine take_at 3 36 (.pointer (some ⟨b, off + k, none⟩)) rfl rfl (by kernel_rfl) (by kernel_rfl) (by kernel_rfl) (fun _ _ _ h => h) (Or.inl ⟨by rfl, fun w hSw => by (try dsimp only at hSw); go_simp⟩) (by assumption) ?_
        simp only [Act.put, List.setIfInBounds_toArray, List.set_cons_zero, List.set_cons_succ]
        refine take_at 4 37 (.float .f64 x) rfl rfl (by kernel_rfl) (by kernel_rfl) (by kernel_rfl) (fun _ _ _ h => h) (Or.inl ⟨by rfl, fun w hSw => by (try dsimp only at hSw); go_simp⟩) (by assumption) ?_
        simp only [Act.put, List.setIfInBounds_toArray, List.set_cons_zero, List.set_cons_succ]
        refine take_at 5 38 (.pointer (some ⟨w.heap.size + 1, 2, none⟩)) rfl rfl (by kernel_rfl) (by kernel_rfl) (by kernel_rfl) (fun _ _ _ h => h) (Or.inl ⟨by rfl, fun w hSw => by (try dsimp only at hSw); go_simp⟩) (by assumption) ?_
        simp only [Act.put, List.setIfInBounds_toArray, List.set_cons_zero, List.set_cons_succ]
        refine take_at 6 39 (.slice (some ⟨b2, off2, none⟩) n cb) rfl rfl (by kernel_rfl) (by kernel_rfl) (by kernel_rfl) (fun _ _ _ h => h) (Or.inl ⟨by rfl, fun w hSw => by (try dsimp only at hSw); go_simp⟩) (by assumption) ?_
        simp only [Act.put, List.setIfInBounds_toArray, List.set_cons_zero, List.set_cons_succ]
        refine take_at 7 40 (.int .i64 k) rfl rfl (by kernel_rfl) (by kernel_rfl) (by kernel_rfl) (fun _ _ _ h => h) (Or.inl ⟨by rfl, fun w hSw => by (try dsimp only at hSw); go_simp⟩) (by assumption) ?_
        simp only [Act.put, List.setIfInBounds_toArray, List.set_cons_zero, List.set_cons_succ]
        refine take_at 8 41 (.pointer (some ⟨b2, off2 + k, none⟩)) rfl rfl (by kernel_rfl) (by kernel_rfl) (by kernel_rfl) (fun _ _ _ h => h) (Or.inl ⟨by rfl, fun w hSw => by (try dsimp only at hSw); go_simp⟩) (by assumption) ?_
        simp only [Act.put, List.setIfInBounds_toArray, List.set_cons_zero, List.set_cons_succ]
        refine take_at 9 42 (.float .f64 y) rfl rfl (by kernel_rfl) (by kernel_rfl) (by kernel_rfl) (fun _ _ _ h => h) (Or.inl ⟨by rfl, fun w hSw => by (try dsimp only at hSw); go_simp⟩) (by assumption) ?_
        simp only [Act.put, List.setIfInBounds_toArray, List.set_cons_zero, List.set_cons_succ]
        refine wpAnyH_ready (rs := [10]) (by kernel_rfl) (by simp) ?_
        refine AllReadyH.cons (o := _) rfl (fun K hK => ?_) AllReadyH.nil
        go_simp
        refine (HSM.out _).mono ?_
        rintro e u1 ⟨rfl, hb1⟩
        have HG1 := hid (HQ0.out.call hb1)
        clear hb1
        go_wp2_with fail
        refine hK.out _ _ (HKS.out _ HG1) (fun hHeld1 => ?_)
        clear hK K
        try simp only [Act.put, List.setIfInBounds_toArray, List.set_cons_zero, List.set_cons_succ]
        refine take_at 11 44 (.bool true) rfl rfl (by kernel_rfl) (by kernel_rfl) (by kernel_rfl) (fun _ _ _ h => h) (Or.inl ⟨by rfl, fun w hSw => by (try dsimp only at hSw); go_simp⟩) (by assumption) ?_
        simp only [Act.put, List.setIfInBounds_toArray, List.set_cons_zero, List.set_cons_succ]
        refine wpAnyH_done (by kernel_rfl) ?_ _
        go_wp2_with fail
        go_ret
        exact ⟨ret_bool (eqF_no HK.out HEQ.out).symm, HBV.out.trans (HG1.out.1.mono HBV.out.size)⟩
    · obtain rfl : k = n := by omega
      go_wp2_with fail
      go_ret
      exact ⟨ret_bool ((eqF_iff _ f g).2 HP.out).symm, HBV.out.trans (HFW.out.1.mono HBV.out.size)⟩
end Go.Proofs.Ytokeialkeadanaa
