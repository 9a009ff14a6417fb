
/- What no time moves and adds; the law's reckoning (plain). -/
import Derived.Test.YtggiklghcnojiaaP44
import Derived.Test.YtggiklghcnojiaaP46
namespace Go.Proofs.Ytggiklghcnojiaa
open Go.RowKit Go.IntWalk

/-- A nought. -/
def Zr (x : Nat) : Prop := x = 0 ∨ x = 9223372036854775808
theorem zr_same {x : Nat} (h : Zr x) : (FloatKind.f64.format.order x 0 != some .eq) = false := by
  rcases h with rfl | rfl <;> decide +kernel
theorem zr_mul0 (x : Nat) (hx : x < 18446744073709551616) (fx : x % 9223372036854775808 < 9218868437227405312) : Zr (mulW x 0) := by
  have h := mul_rndS x 0 hx (by decide) fx (by decide)
  rw [show nv (0 % 9223372036854775808) = 0 by decide, Nat.mul_zero] at h
  have e : rndM 0 (-2148) = 0 := by decide
  rw [e] at h
  have e2 : mulW x 0 = signN (decide (9223372036854775808 ≤ x) ^^ decide (9223372036854775808 ≤ 0)) 0 := by
    unfold mulW
    have h2 : floatBits .mul .f64 x 0 = _ := h
    rw [h2]
    rfl
  rw [e2]
  unfold signN
  unfold Zr
  split <;> simp
theorem zr_m0 {x : Nat} (h : Zr x) : Zr (mulW x 0) := by
  unfold Zr
  rcases h with rfl | rfl <;> decide +kernel
theorem zr_m3 {x : Nat} (h : Zr x) : Zr (mulW x 4610479282544200874) := by
  unfold Zr
  rcases h with rfl | rfl <;> decide +kernel
theorem zr_m20 {x : Nat} (h : Zr x) : Zr (mulW x 4616721195882509480) := by
  unfold Zr
  rcases h with rfl | rfl <;> decide +kernel
theorem zr_m48 {x : Nat} (h : Zr x) : Zr (mulW x 4619486481798941866) := by
  unfold Zr
  rcases h with rfl | rfl <;> decide +kernel
theorem zr_q {x : Nat} (h : Zr x) : Zr (quoW x 4611686018427387904) ∧ Zr (quoW x 4613937818241073152) ∧ Zr (quoW x 4618441417868443648) ∧ Zr (quoW x 4620693217682128896) ∧ Zr (quoW x 4626322717216342016) ∧ Zr (quoW x 4622945017495814144) ∧ Zr (quoW x 4610479282544200874) ∧ Zr (quoW x 4616721195882509480) ∧ Zr (quoW x 4619486481798941866) := by
  unfold Zr
  rcases h with rfl | rfl <;> decide +kernel
theorem zr_s {x : Nat} (h : Zr x) : Zr (sqrW x) := by
  unfold Zr
  rcases h with rfl | rfl <;> decide +kernel
theorem zr_zero : Zr 0 := Or.inl rfl
theorem sec_zero : secW 0 = 0 := by decide +kernel
theorem blQ_zr (k : Int) (n f : Nat) (hn : Up n 1123) : ∀ x ∈ bl 1 k n f 0, Zr x := by
  have a : Zr (va n 0) := zr_mul0 n hn.1 (hn.fin (by decide)).2
  have a1 : Zr (vad n 0) := zr_m0 a
  have a2 : Zr (va2 n 0) := zr_m0 a1
  have a3 : Zr (va3 n 0) := zr_m0 a2
  have a4 : Zr (va4 n 0) := zr_m0 a3
  have b1 : Zr (qb n 0) := (zr_q a1).1
  have b2 : Zr (qc n 0) := (zr_q a2).2.1
  have b3 : Zr (qe n 0) := (zr_q a2).2.2.1
  have b4 : Zr (qf n 0) := (zr_q a3).2.2.2.1
  have b5 : Zr (qg n 0) := (zr_q a4).2.2.2.2.1
  show ∀ x ∈ blQ k n 0, Zr x
  unfold blQ
  split
  · exact all1 zr_zero
  · split
    · exact all1 a
    · split
      · exact all4 b2 b1 b1 a
      · split
        · exact all9 b5 b4 b3 b4 b2 b1 b3 b1 a
        · exact all1 a
theorem blG_zr (k : Int) (n f : Nat) (hn : Up n 1123) : ∀ x ∈ bl 2 k n f 0, Zr x := by
  have a : Zr (va n 0) := zr_mul0 n hn.1 (hn.fin (by decide)).2
  have s : Zr (vs n 0) := zr_s a
  have s1 : Zr (vsd n 0) := zr_m0 s
  have s2 : Zr (vsdd n 0) := zr_m0 s1
  have c1 : Zr (g1 n 0) := (zr_q s1).2.2.2.2.2.2.1
  have c2 : Zr (g2 n 0) := (zr_q (zr_m3 s)).1
  have c3 : Zr (g3 n 0) := (zr_q s).1
  have d1 : Zr (h1 n 0) := (zr_q s2).2.2.2.2.2.2.2.1
  have d2 : Zr (h2 n 0) := (zr_q (zr_m20 s1)).2.2.2.1
  have d3 : Zr (h3 n 0) := (zr_q s1).2.2.2.2.2.2.2.2
  have d4 : Zr (h4 n 0) := (zr_q (zr_m20 s)).2.2.1
  have d5 : Zr (h5 n 0) := (zr_q (zr_m48 s)).2.2.2.2.2.1
  have d6 : Zr (h6 n 0) := (zr_q s).2.1
  show ∀ x ∈ blG k n 0, Zr x
  unfold blG
  split
  · exact all1 zr_zero
  · split
    · exact all1 s
    · split
      · exact all4 c1 zr_zero c2 c3
      · split
        · exact all9 d1 zr_zero zr_zero d2 d3 zr_zero d4 d5 d6
        · exact all1 s
theorem vfo_zero (f : Nat) (hf : Up f 1123) : vfo f 0 = 4607182418800017408 := by
  have a : Zr (mulW f 0) := zr_mul0 f hf.1 (hf.fin (by decide)).2
  have key : ∀ x, Zr x → quoW 4607182418800017408 (addW 4607182418800017408 x) = 4607182418800017408 := by
    intro x hx
    rcases hx with rfl | rfl <;> decide +kernel
  exact key _ a
theorem qd_zero : qd 0 = 0 := by decide +kernel
theorem blF_id (k : Int) (n f r c : Nat) (hf : Up f 1123) (hk : szK k ≠ 0) (hr : r < (szK k).toNat) (hc : c < (szK k).toNat) : (bl 0 k n f 0).getD (r * (szK k).toNat + c) 0 = if r = c then 4607182418800017408 else 0 := by
  show (blF k f 0).getD _ 0 = _
  rcases szK_cases hk with rfl | rfl | rfl | rfl | rfl
  · obtain rfl : r = 0 := Nat.lt_one_iff.1 hr
    obtain rfl : c = 0 := Nat.lt_one_iff.1 hc
    rfl
  · obtain rfl : r = 0 := Nat.lt_one_iff.1 hr
    obtain rfl : c = 0 := Nat.lt_one_iff.1 hc
    rfl
  · have hr2 : r < 2 := hr
    have hc2 : c < 2 := hc
    rcases (show r = 0 ∨ r = 1 by omega) with rfl | rfl <;> rcases (show c = 0 ∨ c = 1 by omega) with rfl | rfl <;> rfl
  · have hr3 : r < 3 := hr
    have hc3 : c < 3 := hc
    have e : blF 3 f 0 = [4607182418800017408, 0, 0, 0, 4607182418800017408, 0, 0, 0, 4607182418800017408] := by
      show [4607182418800017408, 0, qd 0, 0, 4607182418800017408, 0, 0, 0, 4607182418800017408] = _
      rw [qd_zero]
    rw [e]
    rcases (show r = 0 ∨ r = 1 ∨ r = 2 by omega) with rfl | rfl | rfl <;> rcases (show c = 0 ∨ c = 1 ∨ c = 2 by omega) with rfl | rfl | rfl <;> rfl
  · obtain rfl : r = 0 := Nat.lt_one_iff.1 hr
    obtain rfl : c = 0 := Nat.lt_one_iff.1 hc
    show vfo f 0 = _
    rw [vfo_zero f hf]
    rfl
theorem dm_up {n : Nat} {K A : Nat → Int} {N F : Nat → Nat} (h : PtB n K A N F) (hE : dmE n K A N F = 0) (i : Nat) (hi : i < n) : Up (N i) 1123 ∧ Up (F i) 1123 ∧ szK (K i) ≠ 0 := by
  obtain ⟨_, y1, _⟩ := dm_zero hE
  obtain ⟨a, b⟩ := pt_up (h i hi).2.2.1 (h i hi).2.2.2 (scE_all y1 i hi)
  exact ⟨a, b, by have := (ptS_in (scE_all y1 i hi)).2.2.2; omega⟩
/-- F of no time. -/
theorem F_zero {n : Nat} {K A : Nat → Int} {N F : Nat → Nat} (h : PtB n K A N F) (hE : dmE n K A N F = 0) (r c : Nat) (hr : r < (dmV n K A N F).toNat) : laV 0 n K A N F 0 r c = if r = c then 4607182418800017408 else 0 := by
  have key := ax_ind hE (fun L f => ∀ r c, mtV (fun i => bl 0 (K i) (N i) (F i) 0) K A L r c = if r = c ∧ r < f then 4607182418800017408 else 0) (fun r c => by rw [if_neg (fun e => Nat.not_lt_zero _ e.2)]; rfl) (fun L i a f hi ha hf hP r c => by
    have e : mtV (fun i => bl 0 (K i) (N i) (F i) 0) K A (L ++ [(i, a)]) = pU (mtV (fun i => bl 0 (K i) (N i) (F i) 0) K A L) f (szK (K i)).toNat (bl 0 (K i) (N i) (F i) 0) ((szK (K i)).toNat * (szK (K i)).toNat) := by rw [mt_snoc, ← hf]; rfl
    obtain ⟨_, u2, u3⟩ := dm_up h hE i hi
    have hid0 := fun r c => blF_id (K i) (N i) (F i) r c u2 u3
    obtain ⟨z, hz⟩ : ∃ q, (szK (K i)).toNat = q := ⟨_, rfl⟩
    rw [hz] at e hid0 ⊢
    rw [e]
    by_cases hin : f ≤ r ∧ r < f + z ∧ f ≤ c ∧ c < f + z
    · obtain ⟨r, rfl⟩ : ∃ x, r = f + x := ⟨r - f, by omega⟩
      obtain ⟨c, rfl⟩ : ∃ x, c = f + x := ⟨c - f, by omega⟩
      rw [pU_in (by omega) (by omega), hid0 r c (by omega) (by omega)]
      by_cases hrc : r = c
      · rw [if_pos hrc, if_pos ⟨by omega, by omega⟩]
      · rw [if_neg hrc, if_neg (fun q => hrc (by omega))]
    · rw [pU_out hin, hP r c]
      by_cases hrc : r = c ∧ r < f
      · rw [if_pos hrc, if_pos ⟨hrc.1, by omega⟩]
      · rw [if_neg hrc, if_neg (fun q => by omega)])
  have k := key r c
  unfold laV
  rw [sec_zero, k]
  by_cases hrc : r = c
  · rw [if_pos ⟨hrc, hr⟩, if_pos hrc]; decide
  · rw [if_neg (fun q => hrc q.1), if_neg hrc]; decide
theorem canon_zr {x : Nat} (h : Zr x) : Zr (canonOf x) := by
  unfold Zr
  rcases h with rfl | rfl <;> decide
theorem QG_zero {n : Nat} {K A : Nat → Int} {N F : Nat → Nat} (h : PtB n K A N F) (hE : dmE n K A N F = 0) (r c : Nat) : Zr (laV 1 n K A N F 0 r c) ∧ Zr (laV 2 n K A N F 0 r c) := by
  unfold laV
  rw [sec_zero]
  refine ⟨canon_zr (mt_all (p := Zr) zr_zero (fun e he x hx => ?_) r c), canon_zr (mt_all (p := Zr) zr_zero (fun e he x hx => ?_) r c)⟩
  · exact blQ_zr _ _ _ (dm_up h hE e.1 (axP_mem.1 he).1).1 x hx
  · exact blG_zr _ _ _ (dm_up h hE e.1 (axP_mem.1 he).1).1 x hx
/-- F of whole seconds. -/
theorem F_whole {n : Nat} {K A : Nat → Int} {N F : Nat → Nat} (h : PtB n K A N F) (hE : dmE n K A N F = 0) (h4 : ∀ i, i < n → K i ≠ 4) (s : Nat) (hs : s < 1024) (r c : Nat) : laV 0 n K A N F ((s : Int) * 1000000) r c = vq (2 * mtV (fun q => blH (K q) s) K A (axP A n) r c) ∧ mtV (fun q => blH (K q) s) K A (axP A n) r c ≤ 1048576 := by
  have hb : mtV (fun q => blH (K q) s) K A (axP A n) r c ≤ 1048576 := mt_all (p := fun x => x ≤ 1048576) (Nat.zero_le _) (fun e he x hx => blH_le _ s hs x hx) r c
  refine ⟨?_, hb⟩
  have e : mtV (fun i => bl 0 (K i) (N i) (F i) (secW ((s : Int) * 1000000))) K A (axP A n) r c = vq (2 * mtV (fun q => blH (K q) s) K A (axP A n) r c) := mt_map (fun x => vq (2 * x)) vq_zero _ _ K A (axP A n) _ _ (fun e he => by
    have hi := (axP_mem.1 he).1
    exact blH_is _ _ _ s (dm_up h hE e.1 hi).2.2 (h4 _ hi) hs) (fun _ _ => vq_zero.symm) r c
  unfold laV
  rw [e]
  have := (vq_fin (2 * mtV (fun q => blH (K q) s) K A (axP A n) r c) (by omega)).2.1
  unfold canonOf
  rw [if_neg (by omega)]
/-- On the diagonal. -/
theorem diag {D r c : Nat} (hr : r < D) (hc : c < D) : (r * D + c) % (D + 1) = 0 ↔ r = c := by
  by_cases h : r ≤ c
  · have e : r * D + c = (c - r) + (D + 1) * r := by rw [Nat.add_mul, Nat.one_mul, Nat.mul_comm D r]; omega
    rw [e, Nat.add_mul_mod_self_left, Nat.mod_eq_of_lt (by omega)]
    omega
  · obtain ⟨q, rfl⟩ : ∃ q, r = q + 1 := ⟨r - 1, by omega⟩
    have e : (q + 1) * D + c = (D + c - q) + (D + 1) * q := by rw [Nat.add_mul, Nat.add_mul, Nat.one_mul, Nat.one_mul, Nat.mul_comm D q]; omega
    rw [e, Nat.add_mul_mod_self_left, Nat.mod_eq_of_lt (by omega)]
    omega
/-- From 0 on, below 1024. -/
theorem mod_in (k : Int) : ∃ (q : Int) (a b : Nat), k.tmod 1024 = q ∧ q + 1024 = (a : Int) ∧ (a : Int).tmod 1024 = (b : Int) ∧ b < 1024 ∧ a ≤ 2047 := by
  have hq : -1023 ≤ k.tmod 1024 ∧ k.tmod 1024 ≤ 1023 := by
    rcases Int.le_total 0 k with h | h
    · have h1 := Int.tmod_nonneg 1024 h
      have h2 := Int.tmod_lt_of_pos k (show (0 : Int) < 1024 by decide)
      omega
    · have h1 := Int.tmod_nonneg 1024 (show 0 ≤ -k by omega)
      have h2 := Int.tmod_lt_of_pos (-k) (show (0 : Int) < 1024 by decide)
      rw [Int.neg_tmod] at h1 h2
      omega
  obtain ⟨a, ha⟩ := Int.eq_ofNat_of_zero_le (show 0 ≤ k.tmod 1024 + 1024 by omega)
  exact ⟨_, a, a % 1024, rfl, ha, (Int.ofNat_tmod a 1024).symm, Nat.mod_lt _ (by decide), by omega⟩
end Go.Proofs.Ytggiklghcnojiaa
