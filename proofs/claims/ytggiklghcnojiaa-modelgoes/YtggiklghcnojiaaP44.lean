
/- Matrices of small whole numbers and halves; what no time leaves (plain). -/
import Derived.Test.YtggiklghcnojiaaP43
namespace Go.Proofs.Ytggiklghcnojiaa
open Go.RowKit Go.IntWalk

/-- N quarters. -/
def vq (N : Nat) : Nat := rndM N (-2)
theorem vq_zero : vq 0 = 0 := by decide
theorem nv_zt (T : Nat) : nv 0 = 0 * T := nv_zero.trans (Nat.zero_mul T).symm
theorem vq_is (N : Nat) (h : N ≤ 9007199254740992) : nv (vq N) = N * 2 ^ 1072 ∧ vq N < 9218868437227405312 := by
  by_cases h0 : N = 0
  · subst h0
    rw [vq_zero]
    refine ⟨?_, by decide⟩
    generalize (2 : Nat) ^ 1072 = T
    exact nv_zt T
  have hb : bitLen N ≤ 54 := by
    unfold bitLen
    have := (Nat.log2_lt h0).2 (show N < 2 ^ 54 by omega)
    first | omega | (split <;> omega)
  obtain ⟨a1, a2⟩ := wMag_nv N (-2) h (by decide) (by omega)
  have e1 : ((-2 : Int) + 1074).toNat = 1072 := by decide
  rw [e1] at a1
  have e2 := rndq_nv (wMag N (-2)) a2
  have e3 := rndM_sc N 1072 (-2)
  rw [show (-2 : Int) - ((1072 : Nat) : Int) = -1074 by decide, ← a1, e2] at e3
  unfold vq
  rw [← e3]
  exact ⟨a1, a2⟩
theorem vq_of (r N : Nat) (hr : r < 9218868437227405312) (h : nv r = N * 2 ^ 1072) : vq N = r := by
  have e2 := rndq_nv r hr
  have e3 := rndM_sc N 1072 (-2)
  rw [show (-2 : Int) - ((1072 : Nat) : Int) = -1074 by decide, ← h, e2] at e3
  exact e3.symm
theorem vq_fin (N : Nat) (h : N ≤ 9007199254740992) : vq N < 18446744073709551616 ∧ vq N % 9223372036854775808 < 9218868437227405312 ∧ vq N % 9223372036854775808 = vq N ∧ ¬ 9223372036854775808 ≤ vq N := by
  have := (vq_is N h).2
  omega
theorem vq_rnd (N : Nat) : rndM (N * 2 ^ 1072) (-1074) = vq N := by
  have e3 := rndM_sc N 1072 (-2)
  rw [show (-2 : Int) - ((1072 : Nat) : Int) = -1074 by decide] at e3
  exact e3
theorem vq_mul (a b : Nat) (ha : 2 * a ≤ 9007199254740992) (hb : 2 * b ≤ 9007199254740992) : floatBits .mul .f64 (vq (2 * a)) (vq (2 * b)) = some (vq (a * b)) := by
  obtain ⟨a1, a2, a3, a4⟩ := vq_fin _ ha
  obtain ⟨b1, b2, b3, b4⟩ := vq_fin _ hb
  have h := mul_rndS (vq (2 * a)) (vq (2 * b)) a1 b1 a2 b2
  rw [decide_eq_false a4, decide_eq_false b4, a3, b3, (vq_is _ ha).1, (vq_is _ hb).1] at h
  have e : 2 * a * 2 ^ 1072 * (2 * b * 2 ^ 1072) = a * b * 2 ^ 1072 * 2 ^ 1074 := by
    rw [show (2 : Nat) ^ 1074 = 2 ^ 1072 * 4 by decide +kernel]
    generalize (2 : Nat) ^ 1072 = T
    rw [Nat.mul_mul_mul_comm (2 * a) T (2 * b) T, Nat.mul_mul_mul_comm 2 a 2 b, Nat.mul_assoc (a * b) T, ← Nat.mul_assoc T T 4, Nat.mul_comm (T * T) 4, ← Nat.mul_assoc (a * b) 4, Nat.mul_comm (a * b) 4]
  have e2 := rndM_sc (a * b * 2 ^ 1072) 1074 (-1074)
  rw [show (-1074 : Int) - ((1074 : Nat) : Int) = -2148 by decide] at e2
  rw [e, e2, vq_rnd] at h
  exact h
theorem vq_add (a b : Nat) (h : a + b ≤ 9007199254740992) : floatBits .add .f64 (vq a) (vq b) = some (vq (a + b)) := by
  obtain ⟨a1, a2, a3, a4⟩ := vq_fin a (by omega)
  obtain ⟨b1, b2, b3, b4⟩ := vq_fin b (by omega)
  have h1 := add_rndQ (vq a) (vq b) a1 b1 a2 b2
  have s1 : sv (vq a) = ((a * 2 ^ 1072 : Nat) : Int) := by rw [svE_mag _ (by omega), (vq_is a (by omega)).1]
  have s2 : sv (vq b) = ((b * 2 ^ 1072 : Nat) : Int) := by rw [svE_mag _ (by omega), (vq_is b (by omega)).1]
  have s3 : sv (vq a) + sv (vq b) = (((a + b) * 2 ^ 1072 : Nat) : Int) := by rw [s1, s2, Nat.add_mul]; exact (Int.natCast_add _ _).symm
  have s4 : ¬ (((a + b) * 2 ^ 1072 : Nat) : Int) < 0 := by
    generalize (a + b) * 2 ^ 1072 = X
    omega
  rw [s3, Int.natAbs_natCast, vq_rnd, decide_eq_false s4, decide_eq_false a4] at h1
  have e : (if (((a + b) * 2 ^ 1072 : Nat) : Int) = 0 then (false && decide (9223372036854775808 ≤ vq b)) else false) = false := by split <;> rfl
  rw [e] at h1
  exact h1
theorem vq_same (N : Nat) (h : N ≤ 9007199254740992) : (FloatKind.f64.format.order (vq N) (vq N) != some .eq) = false := by
  obtain ⟨a1, a2, a3, a4⟩ := vq_fin N h
  rw [order_self _ a1]
  exact decide_eq_false (by omega)
/-- Whole seconds, and half of their square. -/
theorem sec_whole : ∀ s : Nat, s < 1024 → secW ((s : Int) * 1000000) = vq (4 * s) ∧ qd (vq (4 * s)) = vq (2 * (s * s)) := by
  have h : (List.range 1024).all (fun s : Nat => (secW ((s : Int) * 1000000) == vq (4 * s)) && (qd (vq (4 * s)) == vq (2 * (s * s)))) = true := by decide +kernel
  intro s hs
  have := List.all_eq_true.1 h s (List.mem_range.2 hs)
  rw [Bool.and_eq_true, beq_iff_eq, beq_iff_eq] at this
  exact this
/-- The block of F in halves. -/
def blH (k : Int) (s : Nat) : List Nat := if k = 2 then [2, 2 * s, 0, 2] else if k = 3 then [2, 2 * s, s * s, 0, 2, 2 * s, 0, 0, 2] else [2]
theorem vq_one : vq (2 * 2) = 4607182418800017408 := by decide +kernel
theorem blH_is (k : Int) (n f s : Nat) (hk : szK k ≠ 0) (h4 : k ≠ 4) (hs : s < 1024) : bl 0 k n f (secW ((s : Int) * 1000000)) = (blH k s).map (fun x => vq (2 * x)) := by
  obtain ⟨e1, e2⟩ := sec_whole s hs
  rw [e1]
  show blF k f (vq (4 * s)) = _
  have e3 : vq (2 * (2 * s)) = vq (4 * s) := by rw [← Nat.mul_assoc]
  have e4 : vq (2 * 0) = 0 := vq_zero
  rcases szK_cases hk with rfl | rfl | rfl | rfl | rfl
  · show [4607182418800017408] = [vq (2 * 2)]
    rw [vq_one]
  · show [4607182418800017408] = [vq (2 * 2)]
    rw [vq_one]
  · show [4607182418800017408, vq (4 * s), 0, 4607182418800017408] = [vq (2 * 2), vq (2 * (2 * s)), vq (2 * 0), vq (2 * 2)]
    rw [vq_one, e3, e4]
  · show [4607182418800017408, vq (4 * s), qd (vq (4 * s)), 0, 4607182418800017408, vq (4 * s), 0, 0, 4607182418800017408] = [vq (2 * 2), vq (2 * (2 * s)), vq (2 * (s * s)), vq (2 * 0), vq (2 * 2), vq (2 * (2 * s)), vq (2 * 0), vq (2 * 0), vq (2 * 2)]
    rw [vq_one, e3, e4, e2]
  · exact absurd rfl h4
/-- A matrix of blocks, each number turned. -/
theorem mt_map (g : Nat → Nat) (g0 : g 0 = 0) (B H : Nat → List Nat) (K A : Nat → Int) : ∀ (L : List (Nat × Nat)) (M M' : Nat → Nat → Nat), (∀ e ∈ L, B e.1 = (H e.1).map g) → (∀ r c, M r c = g (M' r c)) → ∀ r c, L.foldl (mtF B K A) M r c = g (L.foldl (mtF H K A) M' r c) := by
  intro L
  induction L with
  | nil => intro M M' _ h r c; exact h r c
  | cons e L ih =>
    intro M M' hB h r c
    refine ih (mtF B K A M e) (mtF H K A M' e) (fun e' he => hB e' (List.mem_cons_of_mem _ he)) (fun r c => ?_) r c
    unfold mtF pU
    rw [hB e (List.mem_cons_self ..)]
    split
    · rw [List.getD_eq_getElem?_getD, List.getD_eq_getElem?_getD, List.getElem?_map]
      cases (H e.1)[(r - fsT K A e) * (szK (K e.1)).toNat + (c - fsT K A e)]? with
      | none => exact g0.symm
      | some x => rfl
    · exact h r c
theorem mt_all {p : Nat → Prop} (h0 : p 0) {B : Nat → List Nat} {K A : Nat → Int} {L : List (Nat × Nat)} (hB : ∀ e ∈ L, ∀ x ∈ B e.1, p x) (r c : Nat) : p (mtV B K A L r c) := by
  have key : ∀ (L : List (Nat × Nat)) (M : Nat → Nat → Nat), (∀ r c, p (M r c)) → (∀ e ∈ L, ∀ x ∈ B e.1, p x) → ∀ r c, p (L.foldl (mtF B K A) M r c) := by
    intro L
    induction L with
    | nil => intro M hM _ r c; exact hM r c
    | cons e L ih =>
      intro M hM h r c
      refine ih (mtF B K A M e) (fun r c => ?_) (fun e' he => h e' (List.mem_cons_of_mem _ he)) r c
      unfold mtF pU
      split
      · rw [List.getD_eq_getElem?_getD]
        cases hx : (B e.1)[(r - fsT K A e) * (szK (K e.1)).toNat + (c - fsT K A e)]? with
        | none => exact h0
        | some x => exact h e (List.mem_cons_self ..) x (List.mem_of_getElem? hx)
      · exact hM r c
  exact key L _ (fun _ _ => h0) hB r c
/-- Along the axes. -/
theorem ax_ind {K A : Nat → Int} {N F : Nat → Nat} {n : Nat} (hE : dmE n K A N F = 0) (P : List (Nat × Nat) → Nat → Prop) (h0 : P [] 0) (hs : ∀ (L : List (Nat × Nat)) (i a f : Nat), i < n → (a : Int) < A i → fsT K A (i, a) = f → P L f → P (L ++ [(i, a)]) (f + (szK (K i)).toNat)) : P (axP A n) (dmV n K A N F).toNat := by
  obtain ⟨_, y1, y2, y3, y4, _⟩ := dm_zero hE
  have key : ∀ i, i ≤ n → P (axP A i) (uS (ptS K A) i).toNat := by
    intro i
    induction i with
    | zero => intro _; exact h0
    | succ i ih =>
      intro hi
      have hp := ih (by omega)
      obtain ⟨_, _, z0, z1, z2⟩ := ptS_in (scE_all y1 i (by omega))
      have a0 := y4 i (by omega)
      have inner : ∀ a : Nat, (a : Int) ≤ A i → P (axP A i ++ (List.range a).map (fun j => (i, j))) (uS (ptS K A) i + (a : Int) * szK (K i)).toNat := by
        intro a
        induction a with
        | zero => intro _; simpa using hp
        | succ a iha =>
          intro ha
          have q := iha (by omega)
          have q2 := hs _ i a _ (by omega) (by omega) (rfl : fsT K A (i, a) = fsT K A (i, a)) q
          rw [List.range_succ, List.map_append, ← List.append_assoc]
          have e : (uS (ptS K A) i + ((a + 1 : Nat) : Int) * szK (K i)).toNat = fsT K A (i, a) + (szK (K i)).toNat := by
            unfold fsT
            have c3 : 0 ≤ (a : Int) * szK (K i) := Int.mul_nonneg (by omega) (by omega)
            rw [Int.natCast_add, Int.add_mul]
            show (uS (ptS K A) i + ((a : Int) * szK (K i) + 1 * szK (K i))).toNat = (uS (ptS K A) i + (a : Int) * szK (K i)).toNat + (szK (K i)).toNat
            omega
          rw [e]
          exact q2
      have q := inner (A i).toNat (by omega)
      have e : uS (ptS K A) (i + 1) = uS (ptS K A) i + A i * szK (K i) := rfl
      rw [e]
      rw [Int.toNat_of_nonneg (by omega)] at q
      exact q
  have q := key n (Nat.le_refl _)
  rw [y3, ← (y4 n (Nat.le_refl _)).1]
  exact q
def sumN (g : Nat → Nat) : Nat → Nat
  | 0 => 0
  | n + 1 => sumN g n + g n
theorem sum_congr {g h : Nat → Nat} : ∀ n, (∀ k, k < n → g k = h k) → sumN g n = sumN h n := by
  intro n
  induction n with
  | zero => intro _; rfl
  | succ n ih => intro e; show sumN g n + g n = sumN h n + h n; rw [ih (fun k hk => e k (by omega)), e n (by omega)]
theorem sum_zero {g : Nat → Nat} : ∀ n, (∀ k, k < n → g k = 0) → sumN g n = 0 := by
  intro n
  induction n with
  | zero => intro _; rfl
  | succ n ih => intro e; show sumN g n + g n = 0; rw [ih (fun k hk => e k (by omega)), e n (by omega)]
theorem sum_split (g : Nat → Nat) (f : Nat) : ∀ z, sumN g (f + z) = sumN g f + sumN (fun c => g (f + c)) z := by
  intro z
  induction z with
  | zero => rfl
  | succ z ih => show sumN g (f + z) + g (f + z) = sumN g f + (sumN (fun c => g (f + c)) z + g (f + z)); rw [ih]; omega
theorem sum_block {g : Nat → Nat} {f z D : Nat} (hD : f + z ≤ D) (h : ∀ k, k < f ∨ f + z ≤ k → g k = 0) : sumN g D = sumN (fun c => g (f + c)) z := by
  have e1 := sum_split g (f + z) (D - (f + z))
  have z1 : sumN g f = 0 := sum_zero f (fun k hk => h k (Or.inl hk))
  have z2 : sumN (fun c => g (f + z + c)) (D - (f + z)) = 0 := sum_zero _ (fun k _ => h _ (Or.inr (by omega)))
  rw [show f + z + (D - (f + z)) = D by omega, sum_split g f z, z1, z2] at e1
  omega
theorem sum_le {g : Nat → Nat} {b : Nat} : ∀ n, (∀ k, k < n → g k ≤ b) → sumN g n ≤ n * b := by
  intro n
  induction n with
  | zero => intro _; exact Nat.zero_le _
  | succ n ih => intro e; show sumN g n + g n ≤ (n + 1) * b; have := ih (fun k hk => e k (by omega)); have := e n (by omega); rw [Nat.add_mul]; omega
theorem pU_in {M : Nat → Nat → Nat} {f z : Nat} {l : List Nat} {r c : Nat} (hr : r < z) (hc : c < z) : pU M f z l (z * z) (f + r) (f + c) = l.getD (r * z + c) 0 := by
  unfold pU
  have := place_lt (r := z) (c := z) hr hc
  rw [if_pos ⟨by omega, by omega, by omega, by omega, by rw [Nat.add_sub_cancel_left, Nat.add_sub_cancel_left]; exact this⟩, Nat.add_sub_cancel_left, Nat.add_sub_cancel_left]
theorem pU_out {M : Nat → Nat → Nat} {f z q : Nat} {l : List Nat} {r c : Nat} (h : ¬ (f ≤ r ∧ r < f + z ∧ f ≤ c ∧ c < f + z)) : pU M f z l q r c = M r c := by
  unfold pU
  rw [if_neg (fun e => h ⟨e.1, e.2.1, e.2.2.1, e.2.2.2.1⟩)]
/-- A block times a block. -/
theorem blH_mul (k : Int) (s t r c : Nat) (hk : szK k ≠ 0) (hr : r < (szK k).toNat) (hc : c < (szK k).toNat) : sumN (fun m => (blH k s).getD (r * (szK k).toNat + m) 0 * (blH k t).getD (m * (szK k).toNat + c) 0) (szK k).toNat = 2 * (blH k (s + t)).getD (r * (szK k).toNat + c) 0 := by
  rcases szK_cases hk with rfl | rfl | rfl | rfl | rfl
  · obtain rfl : r = 0 := Nat.lt_one_iff.1 hr
    obtain rfl : c = 0 := Nat.lt_one_iff.1 hc
    rfl
  · obtain rfl : r = 0 := Nat.lt_one_iff.1 hr
    obtain rfl : c = 0 := Nat.lt_one_iff.1 hc
    rfl
  · have hr2 : r < 2 := hr
    have hc2 : c < 2 := hc
    rcases (show r = 0 ∨ r = 1 by omega) with rfl | rfl <;> rcases (show c = 0 ∨ c = 1 by omega) with rfl | rfl
    · show 0 + 2 * 2 + 2 * s * 0 = 2 * 2; omega
    · show 0 + 2 * (2 * t) + 2 * s * 2 = 2 * (2 * (s + t)); omega
    · show 0 + 0 * 2 + 2 * 0 = 2 * 0; rfl
    · show 0 + 0 * (2 * t) + 2 * 2 = 2 * 2; omega
  · have hr3 : r < 3 := hr
    have hc3 : c < 3 := hc
    rcases (show r = 0 ∨ r = 1 ∨ r = 2 by omega) with rfl | rfl | rfl <;> rcases (show c = 0 ∨ c = 1 ∨ c = 2 by omega) with rfl | rfl | rfl
    · show 0 + 2 * 2 + 2 * s * 0 + s * s * 0 = 2 * 2; omega
    · show 0 + 2 * (2 * t) + 2 * s * 2 + s * s * 0 = 2 * (2 * (s + t)); omega
    · show 0 + 2 * (t * t) + 2 * s * (2 * t) + s * s * 2 = 2 * ((s + t) * (s + t))
      have q1 : (s + t) * (s + t) = s * s + s * t + (s * t + t * t) := by rw [Nat.add_mul, Nat.mul_add, Nat.mul_add, Nat.mul_comm t s]
      have q2 : 2 * s * (2 * t) = 2 * 2 * (s * t) := Nat.mul_mul_mul_comm 2 s 2 t
      rw [q1, q2]
      omega
    · show 0 + 0 * 2 + 2 * 0 + 2 * s * 0 = 2 * 0; omega
    · show 0 + 0 * (2 * t) + 2 * 2 + 2 * s * 0 = 2 * 2; omega
    · show 0 + 0 * (t * t) + 2 * (2 * t) + 2 * s * 2 = 2 * (2 * (s + t)); omega
    · show 0 + 0 * 2 + 0 * 0 + 2 * 0 = 2 * 0; rfl
    · show 0 + 0 * (2 * t) + 0 * 2 + 2 * 0 = 2 * 0; omega
    · show 0 + 0 * (t * t) + 0 * (2 * t) + 2 * 2 = 2 * 2; omega
  · obtain rfl : r = 0 := Nat.lt_one_iff.1 hr
    obtain rfl : c = 0 := Nat.lt_one_iff.1 hc
    rfl
/-- Moved twice is moved once. -/
theorem moved {K A : Nat → Int} {N F : Nat → Nat} {n : Nat} (hE : dmE n K A N F = 0) (s t : Nat) : ∀ i j, sumN (fun k => mtV (fun q => blH (K q) s) K A (axP A n) i k * mtV (fun q => blH (K q) t) K A (axP A n) k j) (dmV n K A N F).toNat = 2 * mtV (fun q => blH (K q) (s + t)) K A (axP A n) i j := by
  obtain ⟨_, y1, _⟩ := dm_zero hE
  have key := ax_ind hE (fun L f => (∀ s r c, ¬ (r < f ∧ c < f) → mtV (fun q => blH (K q) s) K A L r c = 0) ∧ ∀ D, f ≤ D → ∀ i j, sumN (fun k => mtV (fun q => blH (K q) s) K A L i k * mtV (fun q => blH (K q) t) K A L k j) D = 2 * mtV (fun q => blH (K q) (s + t)) K A L i j) ⟨fun _ _ _ _ => rfl, fun D _ i j => sum_zero D (fun k _ => rfl)⟩ (fun L i a f hi ha hf hP => by
    obtain ⟨h1, h2⟩ := hP
    have hz0 : szK (K i) ≠ 0 := by have := (ptS_in (scE_all y1 i hi)).2.2.2; omega
    have e : ∀ s, mtV (fun q => blH (K q) s) K A (L ++ [(i, a)]) = pU (mtV (fun q => blH (K q) s) K A L) f (szK (K i)).toNat (blH (K i) s) ((szK (K i)).toNat * (szK (K i)).toNat) := fun s => by rw [mt_snoc, ← hf]; rfl
    have hmul := fun r c => blH_mul (K i) s t r c hz0
    obtain ⟨z, hz⟩ : ∃ q, (szK (K i)).toNat = q := ⟨_, rfl⟩
    rw [hz] at e hmul ⊢
    have sup : ∀ s r c, ¬ (r < f + z ∧ c < f + z) → mtV (fun q => blH (K q) s) K A (L ++ [(i, a)]) r c = 0 := fun s r c h => by
      rw [e, pU_out (by omega)]
      exact h1 s r c (by omega)
    refine ⟨sup, fun D hD x y => ?_⟩
    by_cases hx1 : x < f
    · rw [e (s + t), pU_out (by omega), ← h2 D (by omega) x y]
      refine sum_congr D (fun k _ => ?_)
      rw [e s, e t, pU_out (show ¬ (f ≤ x ∧ _) by omega)]
      by_cases hk : k < f
      · rw [pU_out (by omega)]
      · rw [h1 s x k (by omega), Nat.zero_mul, Nat.zero_mul]
    · by_cases hx2 : x < f + z
      · obtain ⟨r, rfl⟩ : ∃ r, x = f + r := ⟨x - f, by omega⟩
        rw [sum_block (f := f) (z := z) hD (fun k hk => ?_)]
        · by_cases hy : f ≤ y ∧ y < f + z
          · obtain ⟨c, rfl⟩ : ∃ c, y = f + c := ⟨y - f, by omega⟩
            rw [e (s + t), pU_in (by omega) (by omega), ← hmul r c (by omega) (by omega)]
            refine sum_congr z (fun k hk => ?_)
            rw [e s, e t, pU_in (by omega) hk, pU_in hk (by omega)]
          · rw [e (s + t), pU_out (by omega), h1 _ _ _ (by omega)]
            refine sum_zero z (fun k hk => ?_)
            rw [e t, pU_out (by omega), h1 _ _ _ (by omega), Nat.mul_zero]
        · rw [e s, pU_out (by omega), h1 _ _ _ (by omega), Nat.zero_mul]
      · rw [sup (s + t) x y (by omega)]
        refine sum_zero D (fun k _ => ?_)
        rw [sup s x k (by omega), Nat.zero_mul])
  exact key.2 _ (Nat.le_refl _)
theorem blH_le (k : Int) (s : Nat) (hs : s < 1024) : ∀ x ∈ blH k s, x ≤ 1048576 := by
  have h1 : s * s ≤ 1024 * 1024 := Nat.mul_le_mul (by omega) (by omega)
  unfold blH
  split
  · exact all4 (by omega) (by omega) (by omega) (by omega)
  · split
    · exact all9 (by omega) (by omega) (by omega) (by omega) (by omega) (by omega) (by omega) (by omega) (by omega)
    · exact all1 (by omega)
end Go.Proofs.Ytggiklghcnojiaa
