
/- The law SumNearest where the sum's number is an infinity; its walk whole. -/
import Derived.Test.YtpjdmhidhllbkaaGreatDoorP48
namespace Go.Proofs.YtpjdmhidhllbkaaGreatDoor
open Go.RowKit Go.IntWalk

set_option maxRecDepth 4000 in
set_option maxHeartbeats 4000000 in
/-- The sum's number is an infinity. -/
theorem nearest_pos (sa : Option Addr) (sn sc : Nat) (xs : List Nat) (o : Nat) (z : Int) (w : World) (hn : sn ≤ 600) (ho : o < 18446744073709551616) (fo : o % 9223372036854775808 < 9218868437227405312)
    (hA : ∀ W, Below w.heap.size w W → Calls Tryz.prog 21 #[] W fun r w' => r = .returned (.bool true) ∧ Below W.heap.size W w')
    (hO : Calls Tryz.prog 6 #[.slice sa sn sc] w fun r w' => ∃ ua cap, r = .returned (.slice ua sn cap) ∧ ListAt w' ua sn cap xs ∧ Below w.heap.size w w')
    (hF : ∀ W a c, ListAt W a sn c xs → Calls Tryz.prog 27 #[.slice a sn c] W fun r w' => r = .returned (.bool true) ∧ w' = W)
    (hE : ∀ W a c, Below w.heap.size w W → ListAt W a sn c xs → Calls Tryz.prog 8 #[.slice a sn c] W fun r w' => r = .returned (.tuple #[.float .f64 9218868437227405312, .int .i64 0]) ∧ Below W.heap.size W w')
    (hS : ∀ W a c, ListAt W a sn c xs → Calls Tryz.prog 29 #[.slice a sn c] W fun r w' => ∃ p e, r = .returned (.agg #[.pointer (some ⟨p, 0, none⟩), .int .i64 e]) ∧ (-1074 ≤ e ∧ e ≤ 2000) ∧ ExV w' p e (-1074) z 200 ∧ Below W.heap.size W w')
    (hC : 0 ≤ sgnZ ((z.natAbs : Int) - (sv 9218868437227405311 + ((2 ^ kJ : Nat) : Int)))) (hz : 0 < z) :
    Calls Tryz.prog 5 #[.slice sa sn sc, .int .u64 o] w fun r w' => r = .returned (.bool true) ∧ Below w.heap.size w w' := by
  have h2 := f64from
  have HA := hid hA
  have HO := hid hO
  have HF := hid hF
  have HE := hid hE
  have HS := hid hS
  have HG1 := hid (fun W => rfinite_any o W ho)
  have HG2 := hid (fun W => rfinite_any 9218868437227405312 W (by decide))
  have g1 : (expOf o == 2047) = false := by rw [exp_iffU, decide_eq_true fo]; rfl
  have g2 : (expOf 9218868437227405312 == 2047) = true := by decide
  rw [g1] at HG1
  rw [g2] at HG2
  have HOX := hid (fun W => xOf_fin 9218868437227405311 W (by decide) (by decide))
  have HPW := hid (fun W => xPower_any 970 W)
  obtain ⟨i1, i2, i3, i4⟩ := eqs_inf
  have hI : (sn : Int) ≤ 600 := by omega
  have HZ := hid hz
  clear hz
  obtain ⟨C, hC2⟩ : ∃ C, Hid (sgnZ ((z.natAbs : Int) - (sv 9218868437227405311 + ((2 ^ kJ : Nat) : Int))) = C) := ⟨_, rfl⟩
  rw [hC2.out] at hC
  have hCL := hC
  clear hC
  have hC := hC2
  clear hA hO hF hE hS hn ho fo g1 g2 hC2
  go_enter Tryz.func5, Tryz.ntmps5
  go_wp2_with fail
  refine HO.out.mono ?_
  rintro r w1 ⟨ua, c1, rfl, l1, hb1⟩
  have HB1 := hid hb1
  have HL1 := hid l1
  clear hb1 l1
  go_wp2_with fail
  refine (HF.out _ _ _ HL1.out).mono ?_
  rintro r w9 ⟨rfl, rfl⟩
  go_wp2_with fail
  refine (HG1.out _).mono ?_
  rintro r w9 ⟨rfl, rfl⟩
  go_wp2_with fail
  refine (HE.out _ _ _ HB1.out HL1.out).mono ?_
  rintro r w2 ⟨rfl, hb2⟩
  have HB2 := hid (HB1.out.trans (hb2.mono HB1.out.size))
  have HL2 := hid (HL1.out.below hb2)
  clear hb2
  go_wp2_with fail
  refine (HA.out _ HB2.out).mono ?_
  rintro r w3 ⟨rfl, hb3⟩
  have HB3 := hid (HB2.out.trans (hb3.mono HB2.out.size))
  have HL3 := hid (HL2.out.below hb3)
  clear hb3
  go_wp2_with fail
  refine (HS.out _ _ _ HL3.out).mono ?_
  rintro r w4 ⟨p, e, rfl, ⟨b0, b0'⟩, hx4, hb4⟩
  have HB4 := hid (HB3.out.trans (hb4.mono HB3.out.size))
  have hal : Below w4.heap.size w4 (w4.alloc (XBox (some ⟨p, 0, none⟩) e)) := (Below.refl _ _).alloc (Nat.le_refl _) _
  have HBV := hid (HB4.out.trans (hal.mono HB4.out.size))
  have HBK : Hid ((w4.alloc (XBox (some ⟨p, 0, none⟩) e)).heap[w4.heap.size]? = some (XBox (some ⟨p, 0, none⟩) e)) := new_blk _ _ _ rfl
  have HSX := hid (hx4.below hal)
  obtain ⟨V, hV⟩ : ∃ V, Hid (w4.alloc (XBox (some ⟨p, 0, none⟩) e) = V) := ⟨_, rfl⟩
  obtain ⟨bs, hbs⟩ : ∃ V, Hid (w4.heap.size = V) := ⟨_, rfl⟩
  rw [hV.out] at HBV HBK HSX
  rw [hbs.out] at HBK
  have HSX : Hid (∀ W, Hid (Below V.heap.size V W) → ExV W p e (-1074) z 200) := fun W hW => HSX.out.below hW.out
  have HKS : Hid (∀ W, Hid (Below V.heap.size V W) → (W.cell? ⟨bs, 0, none⟩ = some (.pointer (some ⟨p, 0, none⟩)) ∧ W.cell? ⟨bs, 1, none⟩ = some (.int .i64 e)) ∧ Hid (Below V.heap.size V W)) := fun W hW => by
    obtain ⟨y0, y1, _⟩ := xcells_of (show W.heap[bs]? = some (.cells #[.pointer (some ⟨p, 0, none⟩), .int .i64 e] 48) from (hW.out.block _ (Array.getElem?_eq_some_iff.1 HBK.out).1).trans HBK.out)
    exact ⟨⟨y0, y1⟩, hW⟩
  have hV' := hV.out
  have hbs' := hbs.out
  unfold XBox at hV'
  clear hx4 hb4 hal
  go_wp2_with fail
  refine (HG2.out _).mono ?_
  rintro r V9 ⟨rfl, hw9⟩
  obtain rfl := hw9.symm
  clear hV' hbs' hw9
  go_wp2_with fail
  refine (HOX.out _).mono ?_
  rintro r u1 ⟨q1, f1, rfl, ⟨b1, b1'⟩, hq, hbq⟩
  have HU1 := hid hbq
  have HQ1 := hid hq
  clear hq hbq
  go_wp2_with fail
  refine (HPW.out _).mono ?_
  rintro r u2 ⟨q2, rfl, hq, hbq⟩
  have HU2 := hid (HU1.out.trans (hbq.mono HU1.out.size))
  have HQ1 := hid (HQ1.out.below hbq)
  have HQ2 : Hid (ExV u2 q2 970 (-1074) ((2 ^ kJ : Nat) : Int) 2) := ⟨1, kJ, hq, by rw [kJ_is]; rfl, by rw [Int.one_mul, Int.natCast_pow]; rfl⟩
  clear hq hbq
  go_wp2_with fail
  refine (xAdd_val q1 q2 2 2 f1 970 _ _ _ _ HQ1.out HQ2.out (by decide) (by decide) (by omega) (by omega)).mono ?_
  rintro r u3 ⟨q3, f3, rfl, ⟨b3, b3'⟩, hq, hbq⟩
  have HU3 := hid (HU2.out.trans (hbq.mono HU2.out.size))
  have hal : Below u3.heap.size u3 (u3.alloc (XBox (some ⟨q3, 0, none⟩) f3)) := (Below.refl _ _).alloc (Nat.le_refl _) _
  have HB2 : Hid (Below V.heap.size V (u3.alloc (XBox (some ⟨q3, 0, none⟩) f3))) := HU3.out.trans (hal.mono HU3.out.size)
  have HE2 := hid (hq.below hal)
  have HNK : Hid ((u3.alloc (XBox (some ⟨q3, 0, none⟩) f3)).heap[u3.heap.size]? = some (XBox (some ⟨q3, 0, none⟩) f3)) := new_blk _ _ _ rfl
  obtain ⟨V2, hV2⟩ : ∃ X, Hid (u3.alloc (XBox (some ⟨q3, 0, none⟩) f3) = X) := ⟨_, rfl⟩
  obtain ⟨nB, hnB⟩ : ∃ X, Hid (u3.heap.size = X) := ⟨_, rfl⟩
  rw [hV2.out] at HB2 HE2 HNK
  rw [hnB.out] at HNK
  have hV2' := hV2.out
  have hnB' := hnB.out
  unfold XBox at hV2'
  have HKS : Hid (∀ W, Hid (Below V2.heap.size V2 W) → ((W.cell? ⟨bs, 0, none⟩ = some (.pointer (some ⟨p, 0, none⟩)) ∧ W.cell? ⟨bs, 1, none⟩ = some (.int .i64 e)) ∧ (W.cell? ⟨nB, 0, none⟩ = some (.pointer (some ⟨q3, 0, none⟩)) ∧ W.cell? ⟨nB, 1, none⟩ = some (.int .i64 f3))) ∧ Hid (Below V2.heap.size V2 W)) := fun W hW => by
    obtain ⟨y0, y1, _⟩ := xcells_of (show W.heap[nB]? = some (.cells #[.pointer (some ⟨q3, 0, none⟩), .int .i64 f3] 48) from (hW.out.block _ (Array.getElem?_eq_some_iff.1 HNK.out).1).trans HNK.out)
    have hVW : Hid (Below V.heap.size V W) := HB2.out.trans (hW.out.mono HB2.out.size)
    exact ⟨⟨(HKS.out W hVW).1, y0, y1⟩, hW⟩
  have HS2 : Hid (∀ W, Hid (Below V2.heap.size V2 W) → ExV W p e (-1074) z 200) := fun W hW => HSX.out W (HB2.out.trans (hW.out.mono HB2.out.size))
  have HE2 : Hid (∀ W, Hid (Below V2.heap.size V2 W) → ExV W q3 f3 (-1074) (sv 9218868437227405311 + ((2 ^ kJ : Nat) : Int)) (max 2 2 + 4000)) := fun W hW => HE2.out.below hW.out
  have HQ5 : Hid (Below V2.heap.size V2 V2.drew) := (Below.refl _ _).drew
  have HSGX : Hid (∃ SG : Int, 0 < SG ∧ ∀ W, Hid (Below V2.heap.size V2 W) → Calls Tryz.prog 35 #[.pointer (some ⟨p, 0, none⟩)] W fun r w' => r = .returned (.int .i64 SG) ∧ w' = W) := by
    obtain ⟨v, k, n1, n2, n3⟩ := HS2.out _ HQ5
    refine ⟨sgnZ v, ?_, fun W hW => ?_⟩
    · have := HZ.out
      rw [n3] at this
      have h := sgn_mulS v k
      exact h.1.1 this
    · obtain ⟨v', k', n1', n2', n3'⟩ := HS2.out _ hW
      have hk : k' = k := by omega
      have hv : v' = v := by
        rw [hk] at n3'
        have hp : (0 : Int) < 2 ^ k := Int.pow_pos (by decide)
        exact Int.eq_of_mul_eq_mul_right (by omega) (n3'.symm.trans n3)
      have := NSign p v' 200 W n1'
      rw [hv] at this
      exact this
  obtain ⟨SG, hSG, HSG'⟩ := HSGX.out
  have HSG := hid HSG'
  clear HSG' HSGX hq hbq hal
  go_wp2_with fail
  refine wp_region_held_drew (S := fun W => ((W.cell? ⟨bs, 0, none⟩ = some (.pointer (some ⟨p, 0, none⟩)) ∧ W.cell? ⟨bs, 1, none⟩ = some (.int .i64 e)) ∧ (W.cell? ⟨nB, 0, none⟩ = some (.pointer (some ⟨q3, 0, none⟩)) ∧ W.cell? ⟨nB, 1, none⟩ = some (.int .i64 f3))) ∧ Hid (Below V2.heap.size V2 W)) (by kernel_rfl) (HKS.out _ HQ5) (fun hHeld => ?_)
  clear hV2' hnB'
  -- REGION11a
  refine take_at 0 49 (.float .f64 9218868437227405312) rfl rfl (by kernel_rfl) (by kernel_rfl) (by kernel_rfl) (fun _ _ _ h => h) (Or.inl ⟨by rfl, fun w hSw => by (try dsimp only at hSw); go_simp⟩) (by assumption) ?_
  simp only [Act.put, List.setIfInBounds_toArray, List.set_cons_zero, List.set_cons_succ]
  refine take_at 1 50 (.float .f64 9218868437227405312) rfl rfl (by kernel_rfl) (by kernel_rfl) (by kernel_rfl) (fun _ _ _ h => h) (Or.inl ⟨by rfl, fun w hSw => by (try dsimp only at hSw); go_simp⟩) (by assumption) ?_
  simp only [Act.put, List.setIfInBounds_toArray, List.set_cons_zero, List.set_cons_succ]
  refine take_at 2 51 (.bool true) rfl rfl (by kernel_rfl) (by kernel_rfl) (by kernel_rfl) (fun _ _ _ h => h) (Or.inl ⟨by rfl, fun w hSw => by (try dsimp only at hSw); go_simp⟩) (by assumption) ?_
  simp only [Act.put, List.setIfInBounds_toArray, List.set_cons_zero, List.set_cons_succ]
  refine take_at 3 52 (.bool true) rfl rfl (by kernel_rfl) (by kernel_rfl) (by kernel_rfl) (fun _ _ _ h => h) (Or.inl ⟨by rfl, fun w hSw => by (try dsimp only at hSw); go_simp⟩) (by assumption) ?_
  simp only [Act.put, List.setIfInBounds_toArray, List.set_cons_zero, List.set_cons_succ]
  refine take_at 4 53 (.agg #[.pointer (some ⟨p, 0, none⟩), .int .i64 e]) rfl rfl (by kernel_rfl) (by kernel_rfl) (by kernel_rfl) (fun _ _ _ h => h) (Or.inl ⟨by rfl, fun w hSw => by (try dsimp only at hSw); go_simp⟩) (by assumption) ?_
  simp only [Act.put, List.setIfInBounds_toArray, List.set_cons_zero, List.set_cons_succ]
  refine take_at 6 55 (.agg #[.pointer (some ⟨q3, 0, none⟩), .int .i64 f3]) rfl rfl (by kernel_rfl) (by kernel_rfl) (by kernel_rfl) (fun _ _ _ h => h) (Or.inl ⟨by rfl, fun w hSw => by (try dsimp only at hSw); go_simp⟩) (by assumption) ?_
  simp only [Act.put, List.setIfInBounds_toArray, List.set_cons_zero, List.set_cons_succ]
  refine wpAnyH_ready (rs := [5]) (by kernel_rfl) (by simp) ?_
  refine AllReadyH.cons (o := _) rfl (fun K hK => ?_) AllReadyH.nil
  go_simp
  refine (xAbs_val p _ e _ _ _ (HS2.out _ HQ5) (by decide)).mono ?_
  rintro r u1 ⟨m1, rfl, hq, hbq⟩
  have HG1 : Hid (Below V2.heap.size V2 u1) := HQ5.out.trans (hbq.mono HQ5.out.size)
  have HM1 := hid hq
  clear hq
  clear hbq
  go_wp2_with fail
  refine hK.out _ _ (HKS.out _ HG1) (fun hHeld1 => ?_)
  clear hK K
  try simp only [Act.put, List.setIfInBounds_toArray, List.set_cons_zero, List.set_cons_succ]
  refine wpAnyH_ready (rs := [7]) (by kernel_rfl) (by simp) ?_
  refine AllReadyH.cons (o := _) rfl (fun K hK => ?_) AllReadyH.nil
  go_simp
  refine (xCmp_val m1 q3 _ _ e f3 _ _ _ _ HM1.out (HE2.out _ HG1) (by decide) (by decide) (by omega) (by omega)).mono ?_
  rw [hC.out]
  rintro r u2 ⟨rfl, hbq⟩
  have HG2 : Hid (Below V2.heap.size V2 u2) := HG1.out.trans (hbq.mono HG1.out.size)
  clear hbq
  go_wp2_with fail
  refine hK.out _ _ (HKS.out _ HG2) (fun hHeld2 => ?_)
  clear hK K
  try simp only [Act.put, List.setIfInBounds_toArray, List.set_cons_zero, List.set_cons_succ]
  refine take_at 8 57 (.bool true) rfl rfl (by kernel_rfl) (by kernel_rfl) (by kernel_rfl) (fun _ _ _ h => h) (Or.inl ⟨by rfl, fun w hSw => by (try dsimp only at hSw); go_simp⟩) (by assumption) ?_
  simp only [Act.put, List.setIfInBounds_toArray, List.set_cons_zero, List.set_cons_succ]
  refine take_at 9 58 (.bool true) rfl rfl (by kernel_rfl) (by kernel_rfl) (by kernel_rfl) (fun _ _ _ h => h) (Or.inl ⟨by rfl, fun w hSw => by (try dsimp only at hSw); go_simp⟩) (by assumption) ?_
  simp only [Act.put, List.setIfInBounds_toArray, List.set_cons_zero, List.set_cons_succ]
  refine take_at 10 59 (.bool true) rfl rfl (by kernel_rfl) (by kernel_rfl) (by kernel_rfl) (fun _ _ _ h => h) (Or.inl ⟨by rfl, fun w hSw => by (try dsimp only at hSw); go_simp⟩) (by assumption) ?_
  simp only [Act.put, List.setIfInBounds_toArray, List.set_cons_zero, List.set_cons_succ]
  refine take_at 11 60 (.float .f64 9218868437227405312) rfl rfl (by kernel_rfl) (by kernel_rfl) (by kernel_rfl) (fun _ _ _ h => h) (Or.inl ⟨by rfl, fun w hSw => by (try dsimp only at hSw); go_simp⟩) (by assumption) ?_
  simp only [Act.put, List.setIfInBounds_toArray, List.set_cons_zero, List.set_cons_succ]
  refine take_at 12 61 (.bool true) rfl rfl (by kernel_rfl) (by kernel_rfl) (by kernel_rfl) (fun _ _ _ h => h) (Or.inl ⟨by rfl, fun w hSw => by (try dsimp only at hSw); go_simp⟩) (by assumption) ?_
  simp only [Act.put, List.setIfInBounds_toArray, List.set_cons_zero, List.set_cons_succ]
  refine take_at 13 62 (.pointer (some ⟨bs, 0, none⟩)) rfl rfl (by kernel_rfl) (by kernel_rfl) (by kernel_rfl) (fun _ _ _ h => h) (Or.inl ⟨by rfl, fun w hSw => by (try dsimp only at hSw); go_simp⟩) (by assumption) ?_
  simp only [Act.put, List.setIfInBounds_toArray, List.set_cons_zero, List.set_cons_succ]
  refine take_at 14 63 (.pointer (some ⟨p, 0, none⟩)) rfl rfl (by kernel_rfl) (by kernel_rfl) (by kernel_rfl) (fun _ _ _ h => h) (Or.inl ⟨by rfl, fun w hSw => by (try dsimp only at hSw); go_simp⟩) (by assumption) ?_
  simp only [Act.put, List.setIfInBounds_toArray, List.set_cons_zero, List.set_cons_succ]
  refine wpAnyH_ready (rs := [15]) (by kernel_rfl) (by simp) ?_
  refine AllReadyH.cons (o := _) rfl (fun K hK => ?_) AllReadyH.nil
  go_simp
  refine (HSG.out _ HG2).mono ?_
  rintro r u3 ⟨rfl, rfl⟩
  go_wp2_with fail
  refine hK.out _ _ (HKS.out _ HG2) (fun hHeld3 => ?_)
  clear hK K
  try simp only [Act.put, List.setIfInBounds_toArray, List.set_cons_zero, List.set_cons_succ]
  refine take_at 16 65 (.bool true) rfl rfl (by kernel_rfl) (by kernel_rfl) (by kernel_rfl) (fun _ _ _ h => h) (Or.inl ⟨by rfl, fun w hSw => by (try dsimp only at hSw); go_simp⟩) (by assumption) ?_
  simp only [Act.put, List.setIfInBounds_toArray, List.set_cons_zero, List.set_cons_succ]
  refine take_at 17 66 (.bool true) rfl rfl (by kernel_rfl) (by kernel_rfl) (by kernel_rfl) (fun _ _ _ h => h) (Or.inl ⟨by rfl, fun w hSw => by (try dsimp only at hSw); go_simp⟩) (by assumption) ?_
  simp only [Act.put, List.setIfInBounds_toArray, List.set_cons_zero, List.set_cons_succ]
  refine take_at 18 67 (.bool true) rfl rfl (by kernel_rfl) (by kernel_rfl) (by kernel_rfl) (fun _ _ _ h => h) (Or.inl ⟨by rfl, fun w hSw => by (try dsimp only at hSw); go_simp⟩) (by assumption) ?_
  simp only [Act.put, List.setIfInBounds_toArray, List.set_cons_zero, List.set_cons_succ]
  refine take_at 19 4 (.bool true) rfl rfl (by kernel_rfl) (by kernel_rfl) (by kernel_rfl) (fun _ _ _ h => h) (Or.inl ⟨by rfl, fun w hSw => by (try dsimp only at hSw); go_simp⟩) (by assumption) ?_
  simp only [Act.put, List.setIfInBounds_toArray, List.set_cons_zero, List.set_cons_succ]
  refine wpAnyH_done (by kernel_rfl) ?_ _
  -- END11a
  go_wp2
  go_ret
  exact ⟨rfl, HBV.out.trans ((HB2.out.trans (HG2.out.mono HB2.out.size)).mono HBV.out.size)⟩
set_option maxRecDepth 4000 in
set_option maxHeartbeats 4000000 in
/-- The sum's number is an infinity. -/
theorem nearest_neg (sa : Option Addr) (sn sc : Nat) (xs : List Nat) (o : Nat) (z : Int) (w : World) (hn : sn ≤ 600) (ho : o < 18446744073709551616) (fo : o % 9223372036854775808 < 9218868437227405312)
    (hA : ∀ W, Below w.heap.size w W → Calls Tryz.prog 21 #[] W fun r w' => r = .returned (.bool true) ∧ Below W.heap.size W w')
    (hO : Calls Tryz.prog 6 #[.slice sa sn sc] w fun r w' => ∃ ua cap, r = .returned (.slice ua sn cap) ∧ ListAt w' ua sn cap xs ∧ Below w.heap.size w w')
    (hF : ∀ W a c, ListAt W a sn c xs → Calls Tryz.prog 27 #[.slice a sn c] W fun r w' => r = .returned (.bool true) ∧ w' = W)
    (hE : ∀ W a c, Below w.heap.size w W → ListAt W a sn c xs → Calls Tryz.prog 8 #[.slice a sn c] W fun r w' => r = .returned (.tuple #[.float .f64 18442240474082181120, .int .i64 0]) ∧ Below W.heap.size W w')
    (hS : ∀ W a c, ListAt W a sn c xs → Calls Tryz.prog 29 #[.slice a sn c] W fun r w' => ∃ p e, r = .returned (.agg #[.pointer (some ⟨p, 0, none⟩), .int .i64 e]) ∧ (-1074 ≤ e ∧ e ≤ 2000) ∧ ExV w' p e (-1074) z 200 ∧ Below W.heap.size W w')
    (hC : 0 ≤ sgnZ ((z.natAbs : Int) - (sv 9218868437227405311 + ((2 ^ kJ : Nat) : Int)))) (hz : z < 0) :
    Calls Tryz.prog 5 #[.slice sa sn sc, .int .u64 o] w fun r w' => r = .returned (.bool true) ∧ Below w.heap.size w w' := by
  have h2 := f64from
  have HA := hid hA
  have HO := hid hO
  have HF := hid hF
  have HE := hid hE
  have HS := hid hS
  have HG1 := hid (fun W => rfinite_any o W ho)
  have HG2 := hid (fun W => rfinite_any 18442240474082181120 W (by decide))
  have g1 : (expOf o == 2047) = false := by rw [exp_iffU, decide_eq_true fo]; rfl
  have g2 : (expOf 18442240474082181120 == 2047) = true := by decide
  rw [g1] at HG1
  rw [g2] at HG2
  have HOX := hid (fun W => xOf_fin 9218868437227405311 W (by decide) (by decide))
  have HPW := hid (fun W => xPower_any 970 W)
  obtain ⟨i1, i2, i3, i4⟩ := eqs_inf
  have hI : (sn : Int) ≤ 600 := by omega
  have HZ := hid hz
  clear hz
  obtain ⟨C, hC2⟩ : ∃ C, Hid (sgnZ ((z.natAbs : Int) - (sv 9218868437227405311 + ((2 ^ kJ : Nat) : Int))) = C) := ⟨_, rfl⟩
  rw [hC2.out] at hC
  have hCL := hC
  clear hC
  have hC := hC2
  clear hA hO hF hE hS hn ho fo g1 g2 hC2
  go_enter Tryz.func5, Tryz.ntmps5
  go_wp2_with fail
  refine HO.out.mono ?_
  rintro r w1 ⟨ua, c1, rfl, l1, hb1⟩
  have HB1 := hid hb1
  have HL1 := hid l1
  clear hb1 l1
  go_wp2_with fail
  refine (HF.out _ _ _ HL1.out).mono ?_
  rintro r w9 ⟨rfl, rfl⟩
  go_wp2_with fail
  refine (HG1.out _).mono ?_
  rintro r w9 ⟨rfl, rfl⟩
  go_wp2_with fail
  refine (HE.out _ _ _ HB1.out HL1.out).mono ?_
  rintro r w2 ⟨rfl, hb2⟩
  have HB2 := hid (HB1.out.trans (hb2.mono HB1.out.size))
  have HL2 := hid (HL1.out.below hb2)
  clear hb2
  go_wp2_with fail
  refine (HA.out _ HB2.out).mono ?_
  rintro r w3 ⟨rfl, hb3⟩
  have HB3 := hid (HB2.out.trans (hb3.mono HB2.out.size))
  have HL3 := hid (HL2.out.below hb3)
  clear hb3
  go_wp2_with fail
  refine (HS.out _ _ _ HL3.out).mono ?_
  rintro r w4 ⟨p, e, rfl, ⟨b0, b0'⟩, hx4, hb4⟩
  have HB4 := hid (HB3.out.trans (hb4.mono HB3.out.size))
  have hal : Below w4.heap.size w4 (w4.alloc (XBox (some ⟨p, 0, none⟩) e)) := (Below.refl _ _).alloc (Nat.le_refl _) _
  have HBV := hid (HB4.out.trans (hal.mono HB4.out.size))
  have HBK : Hid ((w4.alloc (XBox (some ⟨p, 0, none⟩) e)).heap[w4.heap.size]? = some (XBox (some ⟨p, 0, none⟩) e)) := new_blk _ _ _ rfl
  have HSX := hid (hx4.below hal)
  obtain ⟨V, hV⟩ : ∃ V, Hid (w4.alloc (XBox (some ⟨p, 0, none⟩) e) = V) := ⟨_, rfl⟩
  obtain ⟨bs, hbs⟩ : ∃ V, Hid (w4.heap.size = V) := ⟨_, rfl⟩
  rw [hV.out] at HBV HBK HSX
  rw [hbs.out] at HBK
  have HSX : Hid (∀ W, Hid (Below V.heap.size V W) → ExV W p e (-1074) z 200) := fun W hW => HSX.out.below hW.out
  have HKS : Hid (∀ W, Hid (Below V.heap.size V W) → (W.cell? ⟨bs, 0, none⟩ = some (.pointer (some ⟨p, 0, none⟩)) ∧ W.cell? ⟨bs, 1, none⟩ = some (.int .i64 e)) ∧ Hid (Below V.heap.size V W)) := fun W hW => by
    obtain ⟨y0, y1, _⟩ := xcells_of (show W.heap[bs]? = some (.cells #[.pointer (some ⟨p, 0, none⟩), .int .i64 e] 48) from (hW.out.block _ (Array.getElem?_eq_some_iff.1 HBK.out).1).trans HBK.out)
    exact ⟨⟨y0, y1⟩, hW⟩
  have hV' := hV.out
  have hbs' := hbs.out
  unfold XBox at hV'
  clear hx4 hb4 hal
  go_wp2_with fail
  refine (HG2.out _).mono ?_
  rintro r V9 ⟨rfl, hw9⟩
  obtain rfl := hw9.symm
  clear hV' hbs' hw9
  go_wp2_with fail
  refine (HOX.out _).mono ?_
  rintro r u1 ⟨q1, f1, rfl, ⟨b1, b1'⟩, hq, hbq⟩
  have HU1 := hid hbq
  have HQ1 := hid hq
  clear hq hbq
  go_wp2_with fail
  refine (HPW.out _).mono ?_
  rintro r u2 ⟨q2, rfl, hq, hbq⟩
  have HU2 := hid (HU1.out.trans (hbq.mono HU1.out.size))
  have HQ1 := hid (HQ1.out.below hbq)
  have HQ2 : Hid (ExV u2 q2 970 (-1074) ((2 ^ kJ : Nat) : Int) 2) := ⟨1, kJ, hq, by rw [kJ_is]; rfl, by rw [Int.one_mul, Int.natCast_pow]; rfl⟩
  clear hq hbq
  go_wp2_with fail
  refine (xAdd_val q1 q2 2 2 f1 970 _ _ _ _ HQ1.out HQ2.out (by decide) (by decide) (by omega) (by omega)).mono ?_
  rintro r u3 ⟨q3, f3, rfl, ⟨b3, b3'⟩, hq, hbq⟩
  have HU3 := hid (HU2.out.trans (hbq.mono HU2.out.size))
  have hal : Below u3.heap.size u3 (u3.alloc (XBox (some ⟨q3, 0, none⟩) f3)) := (Below.refl _ _).alloc (Nat.le_refl _) _
  have HB2 : Hid (Below V.heap.size V (u3.alloc (XBox (some ⟨q3, 0, none⟩) f3))) := HU3.out.trans (hal.mono HU3.out.size)
  have HE2 := hid (hq.below hal)
  have HNK : Hid ((u3.alloc (XBox (some ⟨q3, 0, none⟩) f3)).heap[u3.heap.size]? = some (XBox (some ⟨q3, 0, none⟩) f3)) := new_blk _ _ _ rfl
  obtain ⟨V2, hV2⟩ : ∃ X, Hid (u3.alloc (XBox (some ⟨q3, 0, none⟩) f3) = X) := ⟨_, rfl⟩
  obtain ⟨nB, hnB⟩ : ∃ X, Hid (u3.heap.size = X) := ⟨_, rfl⟩
  rw [hV2.out] at HB2 HE2 HNK
  rw [hnB.out] at HNK
  have hV2' := hV2.out
  have hnB' := hnB.out
  unfold XBox at hV2'
  have HKS : Hid (∀ W, Hid (Below V2.heap.size V2 W) → ((W.cell? ⟨bs, 0, none⟩ = some (.pointer (some ⟨p, 0, none⟩)) ∧ W.cell? ⟨bs, 1, none⟩ = some (.int .i64 e)) ∧ (W.cell? ⟨nB, 0, none⟩ = some (.pointer (some ⟨q3, 0, none⟩)) ∧ W.cell? ⟨nB, 1, none⟩ = some (.int .i64 f3))) ∧ Hid (Below V2.heap.size V2 W)) := fun W hW => by
    obtain ⟨y0, y1, _⟩ := xcells_of (show W.heap[nB]? = some (.cells #[.pointer (some ⟨q3, 0, none⟩), .int .i64 f3] 48) from (hW.out.block _ (Array.getElem?_eq_some_iff.1 HNK.out).1).trans HNK.out)
    have hVW : Hid (Below V.heap.size V W) := HB2.out.trans (hW.out.mono HB2.out.size)
    exact ⟨⟨(HKS.out W hVW).1, y0, y1⟩, hW⟩
  have HS2 : Hid (∀ W, Hid (Below V2.heap.size V2 W) → ExV W p e (-1074) z 200) := fun W hW => HSX.out W (HB2.out.trans (hW.out.mono HB2.out.size))
  have HE2 : Hid (∀ W, Hid (Below V2.heap.size V2 W) → ExV W q3 f3 (-1074) (sv 9218868437227405311 + ((2 ^ kJ : Nat) : Int)) (max 2 2 + 4000)) := fun W hW => HE2.out.below hW.out
  have HQ5 : Hid (Below V2.heap.size V2 V2.drew) := (Below.refl _ _).drew
  have HSGX : Hid (∃ SG : Int, ¬ 0 < SG ∧ ∀ W, Hid (Below V2.heap.size V2 W) → Calls Tryz.prog 35 #[.pointer (some ⟨p, 0, none⟩)] W fun r w' => r = .returned (.int .i64 SG) ∧ w' = W) := by
    obtain ⟨v, k, n1, n2, n3⟩ := HS2.out _ HQ5
    refine ⟨sgnZ v, ?_, fun W hW => ?_⟩
    · have := HZ.out
      rw [n3] at this
      have h := sgn_mulS v k
      have := h.2.1 this; omega
    · obtain ⟨v', k', n1', n2', n3'⟩ := HS2.out _ hW
      have hk : k' = k := by omega
      have hv : v' = v := by
        rw [hk] at n3'
        have hp : (0 : Int) < 2 ^ k := Int.pow_pos (by decide)
        exact Int.eq_of_mul_eq_mul_right (by omega) (n3'.symm.trans n3)
      have := NSign p v' 200 W n1'
      rw [hv] at this
      exact this
  obtain ⟨SG, hSG, HSG'⟩ := HSGX.out
  have HSG := hid HSG'
  clear HSG' HSGX hq hbq hal
  go_wp2_with fail
  refine wp_region_held_drew (S := fun W => ((W.cell? ⟨bs, 0, none⟩ = some (.pointer (some ⟨p, 0, none⟩)) ∧ W.cell? ⟨bs, 1, none⟩ = some (.int .i64 e)) ∧ (W.cell? ⟨nB, 0, none⟩ = some (.pointer (some ⟨q3, 0, none⟩)) ∧ W.cell? ⟨nB, 1, none⟩ = some (.int .i64 f3))) ∧ Hid (Below V2.heap.size V2 W)) (by kernel_rfl) (HKS.out _ HQ5) (fun hHeld => ?_)
  clear hV2' hnB'
  -- REGION11b
  refine take_at 0 49 (.float .f64 18442240474082181120) rfl rfl (by kernel_rfl) (by kernel_rfl) (by kernel_rfl) (fun _ _ _ h => h) (Or.inl ⟨by rfl, fun w hSw => by (try dsimp only at hSw); go_simp⟩) (by assumption) ?_
  simp only [Act.put, List.setIfInBounds_toArray, List.set_cons_zero, List.set_cons_succ]
  refine take_at 1 50 (.float .f64 18442240474082181120) rfl rfl (by kernel_rfl) (by kernel_rfl) (by kernel_rfl) (fun _ _ _ h => h) (Or.inl ⟨by rfl, fun w hSw => by (try dsimp only at hSw); go_simp⟩) (by assumption) ?_
  simp only [Act.put, List.setIfInBounds_toArray, List.set_cons_zero, List.set_cons_succ]
  refine take_at 2 51 (.bool true) rfl rfl (by kernel_rfl) (by kernel_rfl) (by kernel_rfl) (fun _ _ _ h => h) (Or.inl ⟨by rfl, fun w hSw => by (try dsimp only at hSw); go_simp⟩) (by assumption) ?_
  simp only [Act.put, List.setIfInBounds_toArray, List.set_cons_zero, List.set_cons_succ]
  refine take_at 3 52 (.bool true) rfl rfl (by kernel_rfl) (by kernel_rfl) (by kernel_rfl) (fun _ _ _ h => h) (Or.inl ⟨by rfl, fun w hSw => by (try dsimp only at hSw); go_simp⟩) (by assumption) ?_
  simp only [Act.put, List.setIfInBounds_toArray, List.set_cons_zero, List.set_cons_succ]
  refine take_at 4 53 (.agg #[.pointer (some ⟨p, 0, none⟩), .int .i64 e]) rfl rfl (by kernel_rfl) (by kernel_rfl) (by kernel_rfl) (fun _ _ _ h => h) (Or.inl ⟨by rfl, fun w hSw => by (try dsimp only at hSw); go_simp⟩) (by assumption) ?_
  simp only [Act.put, List.setIfInBounds_toArray, List.set_cons_zero, List.set_cons_succ]
  refine take_at 6 55 (.agg #[.pointer (some ⟨q3, 0, none⟩), .int .i64 f3]) rfl rfl (by kernel_rfl) (by kernel_rfl) (by kernel_rfl) (fun _ _ _ h => h) (Or.inl ⟨by rfl, fun w hSw => by (try dsimp only at hSw); go_simp⟩) (by assumption) ?_
  simp only [Act.put, List.setIfInBounds_toArray, List.set_cons_zero, List.set_cons_succ]
  refine wpAnyH_ready (rs := [5]) (by kernel_rfl) (by simp) ?_
  refine AllReadyH.cons (o := _) rfl (fun K hK => ?_) AllReadyH.nil
  go_simp
  refine (xAbs_val p _ e _ _ _ (HS2.out _ HQ5) (by decide)).mono ?_
  rintro r u1 ⟨m1, rfl, hq, hbq⟩
  have HG1 : Hid (Below V2.heap.size V2 u1) := HQ5.out.trans (hbq.mono HQ5.out.size)
  have HM1 := hid hq
  clear hq
  clear hbq
  go_wp2_with fail
  refine hK.out _ _ (HKS.out _ HG1) (fun hHeld1 => ?_)
  clear hK K
  try simp only [Act.put, List.setIfInBounds_toArray, List.set_cons_zero, List.set_cons_succ]
  refine wpAnyH_ready (rs := [7]) (by kernel_rfl) (by simp) ?_
  refine AllReadyH.cons (o := _) rfl (fun K hK => ?_) AllReadyH.nil
  go_simp
  refine (xCmp_val m1 q3 _ _ e f3 _ _ _ _ HM1.out (HE2.out _ HG1) (by decide) (by decide) (by omega) (by omega)).mono ?_
  rw [hC.out]
  rintro r u2 ⟨rfl, hbq⟩
  have HG2 : Hid (Below V2.heap.size V2 u2) := HG1.out.trans (hbq.mono HG1.out.size)
  clear hbq
  go_wp2_with fail
  refine hK.out _ _ (HKS.out _ HG2) (fun hHeld2 => ?_)
  clear hK K
  try simp only [Act.put, List.setIfInBounds_toArray, List.set_cons_zero, List.set_cons_succ]
  refine take_at 8 57 (.bool true) rfl rfl (by kernel_rfl) (by kernel_rfl) (by kernel_rfl) (fun _ _ _ h => h) (Or.inl ⟨by rfl, fun w hSw => by (try dsimp only at hSw); go_simp⟩) (by assumption) ?_
  simp only [Act.put, List.setIfInBounds_toArray, List.set_cons_zero, List.set_cons_succ]
  refine take_at 9 58 (.bool true) rfl rfl (by kernel_rfl) (by kernel_rfl) (by kernel_rfl) (fun _ _ _ h => h) (Or.inl ⟨by rfl, fun w hSw => by (try dsimp only at hSw); go_simp⟩) (by assumption) ?_
  simp only [Act.put, List.setIfInBounds_toArray, List.set_cons_zero, List.set_cons_succ]
  refine take_at 10 59 (.bool true) rfl rfl (by kernel_rfl) (by kernel_rfl) (by kernel_rfl) (fun _ _ _ h => h) (Or.inl ⟨by rfl, fun w hSw => by (try dsimp only at hSw); go_simp⟩) (by assumption) ?_
  simp only [Act.put, List.setIfInBounds_toArray, List.set_cons_zero, List.set_cons_succ]
  refine take_at 11 60 (.float .f64 18442240474082181120) rfl rfl (by kernel_rfl) (by kernel_rfl) (by kernel_rfl) (fun _ _ _ h => h) (Or.inl ⟨by rfl, fun w hSw => by (try dsimp only at hSw); go_simp⟩) (by assumption) ?_
  simp only [Act.put, List.setIfInBounds_toArray, List.set_cons_zero, List.set_cons_succ]
  refine take_at 12 61 (.bool false) rfl rfl (by kernel_rfl) (by kernel_rfl) (by kernel_rfl) (fun _ _ _ h => h) (Or.inl ⟨by rfl, fun w hSw => by (try dsimp only at hSw); go_simp⟩) (by assumption) ?_
  simp only [Act.put, List.setIfInBounds_toArray, List.set_cons_zero, List.set_cons_succ]
  refine take_at 13 62 (.pointer (some ⟨bs, 0, none⟩)) rfl rfl (by kernel_rfl) (by kernel_rfl) (by kernel_rfl) (fun _ _ _ h => h) (Or.inl ⟨by rfl, fun w hSw => by (try dsimp only at hSw); go_simp⟩) (by assumption) ?_
  simp only [Act.put, List.setIfInBounds_toArray, List.set_cons_zero, List.set_cons_succ]
  refine take_at 14 63 (.pointer (some ⟨p, 0, none⟩)) rfl rfl (by kernel_rfl) (by kernel_rfl) (by kernel_rfl) (fun _ _ _ h => h) (Or.inl ⟨by rfl, fun w hSw => by (try dsimp only at hSw); go_simp⟩) (by assumption) ?_
  simp only [Act.put, List.setIfInBounds_toArray, List.set_cons_zero, List.set_cons_succ]
  refine wpAnyH_ready (rs := [15]) (by kernel_rfl) (by simp) ?_
  refine AllReadyH.cons (o := _) rfl (fun K hK => ?_) AllReadyH.nil
  go_simp
  refine (HSG.out _ HG2).mono ?_
  rintro r u3 ⟨rfl, rfl⟩
  go_wp2_with fail
  refine hK.out _ _ (HKS.out _ HG2) (fun hHeld3 => ?_)
  clear hK K
  try simp only [Act.put, List.setIfInBounds_toArray, List.set_cons_zero, List.set_cons_succ]
  refine take_at 16 65 (.bool false) rfl rfl (by kernel_rfl) (by kernel_rfl) (by kernel_rfl) (fun _ _ _ h => h) (Or.inl ⟨by rfl, fun w hSw => by (try dsimp only at hSw); go_simp⟩) (by assumption) ?_
  simp only [Act.put, List.setIfInBounds_toArray, List.set_cons_zero, List.set_cons_succ]
  refine take_at 17 66 (.bool true) rfl rfl (by kernel_rfl) (by kernel_rfl) (by kernel_rfl) (fun _ _ _ h => h) (Or.inl ⟨by rfl, fun w hSw => by (try dsimp only at hSw); go_simp⟩) (by assumption) ?_
  simp only [Act.put, List.setIfInBounds_toArray, List.set_cons_zero, List.set_cons_succ]
  refine take_at 18 67 (.bool true) rfl rfl (by kernel_rfl) (by kernel_rfl) (by kernel_rfl) (fun _ _ _ h => h) (Or.inl ⟨by rfl, fun w hSw => by (try dsimp only at hSw); go_simp⟩) (by assumption) ?_
  simp only [Act.put, List.setIfInBounds_toArray, List.set_cons_zero, List.set_cons_succ]
  refine take_at 19 4 (.bool true) rfl rfl (by kernel_rfl) (by kernel_rfl) (by kernel_rfl) (fun _ _ _ h => h) (Or.inl ⟨by rfl, fun w hSw => by (try dsimp only at hSw); go_simp⟩) (by assumption) ?_
  simp only [Act.put, List.setIfInBounds_toArray, List.set_cons_zero, List.set_cons_succ]
  refine wpAnyH_done (by kernel_rfl) ?_ _
  -- END11b
  go_wp2
  go_ret
  exact ⟨rfl, HBV.out.trans ((HB2.out.trans (HG2.out.mono HB2.out.size)).mono HBV.out.size)⟩
theorem snearest_walk (sa : Option Addr) (sn sc : Nat) (xs : List Nat) (o : Nat) (w : World) (hu : U64At w sa sn xs) (hn : sn ≤ 17592186043904) (ho : o < 18446744073709551616) (hT : Tab w) (hg : 2 < w.heap.size) (hT3 : Tab32 w) (hs : 1 < w.heap.size) :
    Calls Tryz.prog 5 #[.slice sa sn sc, .int .u64 o] w fun r w' => r = .returned (.bool true) ∧ Below w.heap.size w w' := by
  have hA : ∀ W, Below w.heap.size w W → Calls Tryz.prog 21 #[] W fun r w' => r = .returned (.bool true) ∧ Below W.heap.size W w' := fun W hW => awake5_any W (hT.below hg hW) (Nat.lt_of_lt_of_le hg hW.size) (hT3.below hs hW) (Nat.lt_of_lt_of_le hs hW.size)
  by_cases h : 600 < sn ∨ allFin xs = false ∨ (expOf o == 2047) = true
  · exact nearest_early sa sn sc xs o w hu hn ho hA h
  · have h1 : sn ≤ 600 := by
      apply Classical.byContradiction
      intro c
      exact h (Or.inl (by omega))
    have h2 : allFin xs = true := by
      cases c : allFin xs with
      | true => rfl
      | false => exact absurd (Or.inr (Or.inl c)) h
    have h3 : o % 9223372036854775808 < 9218868437227405312 := by
      apply Classical.byContradiction
      intro c
      exact h (Or.inr (Or.inr (by rw [exp_iffU, decide_eq_false c]; rfl)))
    have hO := Of64_list sa sn sc xs w hu hn
    have hF : ∀ W a c, ListAt W a sn c xs → Calls Tryz.prog 27 #[.slice a sn c] W fun r w' => r = .returned (.bool true) ∧ w' = W := fun W a c hl => by
      have := rall_list a sn c xs W hl hu.2.1 hn
      rw [h2] at this
      exact this
    have hE : ∀ W a c, Below w.heap.size w W → ListAt W a sn c xs → Calls Tryz.prog 8 #[.slice a sn c] W fun r w' => r = .returned (.tuple #[.float .f64 (exactN xs sn), .int .i64 0]) ∧ Below W.heap.size W w' := fun W a c hW hl => Exact_fin a sn c xs W hl hu.2.1 (by omega) h2 (hT.below hg hW) (Nat.lt_of_lt_of_le hg hW.size) (hT3.below hs hW) (Nat.lt_of_lt_of_le hs hW.size)
    have hS : ∀ W a c, ListAt W a sn c xs → Calls Tryz.prog 29 #[.slice a sn c] W fun r w' => ∃ p e, r = .returned (.agg #[.pointer (some ⟨p, 0, none⟩), .int .i64 e]) ∧ (-1074 ≤ e ∧ e ≤ 2000) ∧ ExV w' p e (-1074) (sumSv xs sn) 200 ∧ Below W.heap.size W w' := fun W a c hl => xSum_list a sn c xs W hl hu.2.1 hn h2
    by_cases fx : exactN xs sn % 9223372036854775808 < 9218868437227405312
    · exact nearest_fin sa sn sc xs o (exactN xs sn) (sumSv xs sn) w h1 (exactN_lt xs sn).1 fx ho h3 hA hO hF hE hS (sgnS_le (by have := near_law xs sn o (by rw [hu.1]; exact Nat.le_refl _) fx; omega))
    · obtain ⟨k1, k2⟩ := far_law xs sn fx
      rcases k2 with ⟨k2, k3⟩ | ⟨k2, k3⟩
      · rw [k2] at hE
        exact nearest_pos sa sn sc xs o (sumSv xs sn) w h1 ho h3 hA hO hF hE hS (sgnS_ge (by omega)) k3
      · rw [k2] at hE
        exact nearest_neg sa sn sc xs o (sumSv xs sn) w h1 ho h3 hA hO hF hE hS (sgnS_ge (by omega)) k3
end Go.Proofs.YtpjdmhidhllbkaaGreatDoor
