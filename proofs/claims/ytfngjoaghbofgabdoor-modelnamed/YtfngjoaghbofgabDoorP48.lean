
/- The names of a state: how many, all unlike, where each stands. -/
import Derived.Test.YtfngjoaghbofgabDoorP45
import Derived.Lib.SlicesS
namespace Go.Proofs.YtfngjoaghbofgabDoor
open Go.RowKit Go.IntWalk

def decD (l : List UInt8) : Nat := l.foldl (fun a b => a * 10 + (b.toNat - 48)) 0
def decN (s : ByteArray) : Nat × Nat × Nat := ((s.data.toList.headD 0).toNat, decD ((s.data.toList.drop 1).takeWhile (fun b => b != 46)), decD (((s.data.toList.drop 1).dropWhile (fun b => b != 46)).drop 1))
def pvaN : Nat → Nat
  | 0 => 112
  | 1 => 118
  | _ => 97
set_option maxRecDepth 20000 in
theorem dec_all : ∀ o : Fin 3, ∀ i : Fin 12, ∀ j : Fin 12, decN (nmS o.val i.val j.val) = (pvaN o.val, i.val, j.val) := by decide +kernel
theorem nm_inj {o i j o' i' j' : Nat} (ho : o < 3) (hi : i < 12) (hj : j < 12) (ho' : o' < 3) (hi' : i' < 12) (hj' : j' < 12) (h : nmS o i j = nmS o' i' j') : o = o' ∧ i = i' ∧ j = j' := by
  have a := dec_all ⟨o, ho⟩ ⟨i, hi⟩ ⟨j, hj⟩
  have b := dec_all ⟨o', ho'⟩ ⟨i', hi'⟩ ⟨j', hj'⟩
  simp only at a b
  rw [h, b] at a
  simp only [Prod.mk.injEq] at a
  refine ⟨?_, a.2.1.symm, a.2.2.symm⟩
  have hp := a.1
  unfold pvaN at hp
  match o, o', ho, ho', hp with
  | 0, 0, _, _, _ => rfl
  | 1, 1, _, _, _ => rfl
  | 2, 2, _, _, _ => rfl
  | 0, 1, _, _, h | 0, 2, _, _, h | 1, 0, _, _, h | 1, 2, _, _, h | 2, 0, _, _, h | 2, 1, _, _, h => simp at h
theorem axP_un (A : Nat → Int) (n : Nat) : (axP A n).Pairwise (fun a b => a ≠ b) := by
  induction n with
  | zero => exact List.Pairwise.nil
  | succ n ih =>
    show (axP A n ++ (List.range (A n).toNat).map (fun j => (n, j))).Pairwise _
    rw [List.pairwise_append]
    refine ⟨ih, ?_, ?_⟩
    · rw [List.pairwise_map]
      exact (List.pairwise_lt_range (n := (A n).toNat)).imp (fun h e => by simp at e; omega)
    · intro a ha b hb e
      obtain ⟨j, _, rfl⟩ := List.mem_map.1 hb
      have := (axP_mem.1 ha).1
      rw [e] at this
      exact absurd this (Nat.lt_irrefl _)
theorem nmL_un {n : Nat} {K A : Nat → Int} {N F : Nat → Nat} (h : dmE n K A N F = 0) : (nmL K (axP A n)).Pairwise (fun a b => a ≠ b) := by
  unfold nmL
  rw [List.pairwise_flatMap]
  refine ⟨fun e he => ?_, (axP_un A n).imp_of_mem (fun {a b} ha hb hab x hx y hy hxy => ?_)⟩
  · obtain ⟨h1, h2, _, h4⟩ := small_part h he
    rw [List.pairwise_map]
    refine (List.pairwise_lt_range (n := (szK (K e.1)).toNat)).imp_of_mem (fun {a b} ha hb hab hxy => ?_)
    have ha' := List.mem_range.1 ha
    have hb' := List.mem_range.1 hb
    have := (nm_inj (by omega) h1 h2 (by omega) h1 h2 hxy).1
    omega
  · obtain ⟨p1, p2, _, p4⟩ := small_part h ha
    obtain ⟨q1, q2, _, q4⟩ := small_part h hb
    obtain ⟨o, ho, rfl⟩ := List.mem_map.1 hx
    obtain ⟨o', ho', rfl⟩ := List.mem_map.1 hy
    have ha' := List.mem_range.1 ho
    have hb' := List.mem_range.1 ho'
    have := nm_inj (by omega) p1 p2 (by omega) q1 q2 hxy
    exact hab (Prod.ext this.2.1 this.2.2)
/-- No name stands twice. -/
theorem nm_unlike {n : Nat} {K A : Nat → Int} {N F : Nat → Nat} (h : dmE n K A N F = 0) (i k : Nat) (hi : i < (nmL K (axP A n)).length) (hk : k < i) : (((nmL K (axP A n)).getD i ⟨#[]⟩).toList == ((nmL K (axP A n)).getD k ⟨#[]⟩).toList) = false := by
  have hp := List.pairwise_iff_getElem.1 (nmL_un h) k i (by omega) hi hk
  rw [List.getD_eq_getElem?_getD, List.getD_eq_getElem?_getD, List.getElem?_eq_getElem hi, List.getElem?_eq_getElem (by omega)]
  simp only [Option.getD_some]
  exact (Lib.bytes_beq_false_iff _ _).2 (fun e => hp e.symm)
theorem nmL_app (K : Nat → Int) (L M : List (Nat × Nat)) : nmL K (L ++ M) = nmL K L ++ nmL K M := List.flatMap_append
def nmB (K : Nat → Int) (i a : Nat) : List ByteArray := nmL K ((List.range a).map (fun j => (i, j)))
theorem nmB_succ (K : Nat → Int) (i a : Nat) : nmB K i (a + 1) = nmB K i a ++ (List.range (szK (K i)).toNat).map (fun o => nmS o i a) := by
  unfold nmB
  rw [List.range_succ, List.map_append, nmL_app]
  simp [nmL]
theorem nmB_len (K : Nat → Int) (i a : Nat) : (nmB K i a).length = a * (szK (K i)).toNat := by
  induction a with
  | zero => rw [Nat.zero_mul]; rfl
  | succ a ih => rw [nmB_succ, List.length_append, ih, List.length_map, List.length_range, Nat.succ_mul]
theorem nmB_get (K : Nat → Int) (i a x o : Nat) (hx : x < a) (ho : o < (szK (K i)).toNat) : (nmB K i a)[x * (szK (K i)).toNat + o]? = some (nmS o i x) := by
  induction a with
  | zero => exact absurd hx (Nat.not_lt_zero _)
  | succ a ih =>
    rw [nmB_succ]
    by_cases h : x < a
    · have : (x + 1) * (szK (K i)).toNat ≤ a * (szK (K i)).toNat := Nat.mul_le_mul_right _ h
      rw [Nat.succ_mul] at this
      rw [List.getElem?_append_left (by rw [nmB_len]; omega)]
      exact ih h
    · obtain rfl : x = a := by omega
      rw [List.getElem?_append_right (by rw [nmB_len]; omega), nmB_len, Nat.add_sub_cancel_left, List.getElem?_map, List.getElem?_range ho]
      rfl
theorem nmL_len {n : Nat} {K A : Nat → Int} {N F : Nat → Nat} (h : ∀ i, i < n → ptEs K A N F i = 0) : ((nmL K (axP A n)).length : Int) = uS (ptS K A) n := by
  induction n with
  | zero => rfl
  | succ n ih =>
    obtain ⟨_, _, a1, z1, _⟩ := ptS_in (h n (Nat.lt_succ_self _))
    show ((nmL K (axP A n ++ (List.range (A n).toNat).map (fun j => (n, j)))).length : Int) = uS (ptS K A) n + ptS K A n
    rw [nmL_app, List.length_append, Int.natCast_add, ih (fun i hi => h i (Nat.lt_succ_of_lt hi))]
    have := nmB_len K n (A n).toNat
    unfold nmB at this
    rw [this, Int.natCast_mul, Int.toNat_of_nonneg (by omega), Int.toNat_of_nonneg (by omega)]
    rfl
theorem nmL_lenD {n : Nat} {K A : Nat → Int} {N F : Nat → Nat} (h : dmE n K A N F = 0) : ((nmL K (axP A n)).length : Int) = dmV n K A N F := by
  obtain ⟨_, h1, _, h3, h4, _⟩ := dm_zero h
  rw [nmL_len (scE_all h1), h3]
  exact (h4 n (Nat.le_refl _)).1
theorem nmL_get {n : Nat} {K A : Nat → Int} {N F : Nat → Nat} (h : ∀ i, i < n → ptEs K A N F i = 0) (p x o : Nat) (hp : p < n) (hx : (x : Int) < A p) (ho : (o : Int) < szK (K p)) : ∃ t : Nat, (t : Int) = uS (ptS K A) p + (x : Int) * szK (K p) + (o : Int) ∧ (nmL K (axP A n))[t]? = some (nmS o p x) := by
  induction n with
  | zero => exact absurd hp (Nat.not_lt_zero _)
  | succ n ih =>
    obtain ⟨_, _, a1, z1, _⟩ := ptS_in (h n (Nat.lt_succ_self _))
    have e : nmL K (axP A (n + 1)) = nmL K (axP A n) ++ nmB K n (A n).toNat := nmL_app _ _ _
    rw [e]
    by_cases hpn : p < n
    · obtain ⟨t, h1, h2⟩ := ih (fun i hi => h i (Nat.lt_succ_of_lt hi)) hpn
      have hl := (List.getElem?_eq_some_iff.1 h2).1
      exact ⟨t, h1, by rw [List.getElem?_append_left hl]; exact h2⟩
    · obtain rfl : p = n := by omega
      have hL := nmL_len (fun i hi => h i (Nat.lt_succ_of_lt hi))
      refine ⟨(nmL K (axP A p)).length + (x * (szK (K p)).toNat + o), ?_, ?_⟩
      · rw [Int.natCast_add, Int.natCast_add, Int.natCast_mul, hL, Int.toNat_of_nonneg (by omega)]
        omega
      · rw [List.getElem?_append_right (by omega), Nat.add_sub_cancel_left]
        exact nmB_get K p _ x o (by omega) (by omega)
theorem nmS_head : ∀ o : Fin 3, ∀ i : Fin 12, ∀ j : Fin 12, (nmS o.val i.val j.val).size ≠ 0 ∧ (nmS o.val i.val j.val)[0]? = (⟨#[112, 118, 97]⟩ : ByteArray)[o.val]? ∧ (nmS o.val i.val j.val).size ≤ 6 := by decide +kernel
/-- Where a number stands, its name's first letter is that of its order. -/
theorem nm_place {n : Nat} {K A : Nat → Int} {N F : Nat → Nat} {part axis order : Int} (h : dmE n K A N F = 0) (hp : plE n K A N F part axis order = 0) : ∃ t o : Nat, plV n K A N F part axis order = (t : Int) ∧ order = (o : Int) ∧ o < 3 ∧ t < (nmL K (axP A n)).length ∧ ∃ i j, i < 12 ∧ j < 12 ∧ (nmL K (axP A n)).getD t ⟨#[]⟩ = nmS o i j := by
  have hok : PlOk n K A part axis order := Classical.byContradiction fun hc => by
    have := (pl_no h hc).1
    omega
  obtain ⟨h1, h2, h3, h4, h5, h6⟩ := hok
  obtain ⟨_, y1, _⟩ := dm_zero h
  obtain ⟨p, rfl⟩ := Int.eq_ofNat_of_zero_le h1
  obtain ⟨x, rfl⟩ := Int.eq_ofNat_of_zero_le h3
  obtain ⟨o, rfl⟩ := Int.eq_ofNat_of_zero_le h5
  rw [Int.toNat_natCast] at h4 h6
  have hpn : p < n := by omega
  obtain ⟨t, t1, t2⟩ := nmL_get (scE_all y1) p x o hpn h4 h6
  obtain ⟨s1, s2, _, s4⟩ := small_part h (e := (p, x)) (axP_mem.2 ⟨hpn, h4⟩)
  refine ⟨t, o, ?_, rfl, by simp only at s4; omega, (List.getElem?_eq_some_iff.1 t2).1, p, x, s1, s2, ?_⟩
  · rw [(pl_yes h ⟨h1, h2, h3, by rw [Int.toNat_natCast]; exact h4, h5, by rw [Int.toNat_natCast]; exact h6⟩).2, t1, Int.toNat_natCast]
  · rw [List.getD_eq_getElem?_getD, t2]
    rfl
end Go.Proofs.YtfngjoaghbofgabDoor
