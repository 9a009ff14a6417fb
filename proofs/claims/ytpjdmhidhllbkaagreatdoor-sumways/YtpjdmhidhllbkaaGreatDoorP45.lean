
/- sum's notFinitePairs. -/
import Derived.Test.YtpjdmhidhllbkaaGreatDoorP44
import Derived.Maps.AppendAt
namespace Go.Proofs.YtpjdmhidhllbkaaGreatDoor
open Go.RowKit Go.IntWalk

/-- The pairs that aren't both finite. -/
def nfC (xs ys : List Nat) : Nat → List Nat × List Nat
  | 0 => ([], [])
  | k + 1 => if allFin [xs.getD k 0, ys.getD k 0] = true then nfC xs ys k else ((nfC xs ys k).1 ++ [xs.getD k 0], (nfC xs ys k).2 ++ [ys.getD k 0])
theorem nfC_len (xs ys : List Nat) : ∀ k, (nfC xs ys k).1.length = (nfC xs ys k).2.length ∧ (nfC xs ys k).1.length ≤ k
  | 0 => ⟨rfl, Nat.le_refl _⟩
  | k + 1 => by
    obtain ⟨h1, h2⟩ := nfC_len xs ys k
    unfold nfC
    split
    · exact ⟨h1, by omega⟩
    · simp only [List.length_append, List.length_singleton]
      omega
/-- Their products. -/
def nfP (xs ys : List Nat) : Nat → List Nat
  | 0 => []
  | k + 1 => if allFin [xs.getD k 0, ys.getD k 0] = true then nfP xs ys k else nfP xs ys k ++ [caf .mul (canonOf (xs.getD k 0)) (canonOf (ys.getD k 0))]
theorem prodL_snoc (cs ds : List Nat) (x y : Nat) (h : cs.length = ds.length) : prodL (cs ++ [x]) (ds ++ [y]) (cs.length + 1) = prodL cs ds cs.length ++ [caf .mul (canonOf x) (canonOf y)] := by
  rw [prodL_succ]
  congr 1
  · unfold prodL
    refine List.map_congr_left (fun j hj => ?_)
    have hj := List.mem_range.1 hj
    rw [List.getD_eq_getElem?_getD, List.getElem?_append_left hj, ← List.getD_eq_getElem?_getD, List.getD_eq_getElem?_getD (l := ds ++ [y]), List.getElem?_append_left (by omega), ← List.getD_eq_getElem?_getD]
  · simp [List.getD, h]
theorem nfP_is (xs ys : List Nat) : ∀ k, prodL (nfC xs ys k).1 (nfC xs ys k).2 (nfC xs ys k).1.length = nfP xs ys k
  | 0 => rfl
  | k + 1 => by
    have ih := nfP_is xs ys k
    have hl := (nfC_len xs ys k).1
    unfold nfC nfP
    by_cases c : allFin [xs.getD k 0, ys.getD k 0] = true
    · rw [if_pos c, if_pos c]; exact ih
    · rw [if_neg c, if_neg c, ← ih]
      simp only [List.length_append, List.length_singleton]
      exact prodL_snoc _ _ _ _ hl
/-- They lie apart. -/
def ApartS (u v : Value) : Prop := ∀ g, u.ownBlock = some g → v.ownBlock ≠ some g
theorem ApartS.ne {u v : Value} (h : ApartS u v) : v.ownBlock = none ∨ v.ownBlock ≠ u.ownBlock := by
  cases hv : v.ownBlock with
  | none => exact .inl rfl
  | some g => exact .inr (fun e => h g e.symm hv)
theorem ApartS.symm {u v : Value} (h : ApartS u v) : ApartS v u := fun g h1 h2 => h g h2 h1
theorem ApartS.new {u v u' : Value} {n : Nat} (h : ApartS u v) (hu : u'.ownBlock = u.ownBlock ∨ u'.ownBlock = some n) (hv : ∀ g, v.ownBlock = some g → g < n) : ApartS u' v := fun g h1 h2 => by
  rcases hu with e | e
  · exact h g (e ▸ h1) h2
  · rw [e] at h1
    cases h1
    have := hv _ h2
    omega
theorem list2F (W : World) (b x0 x1 : Nat) (h : W.heap[b]? = some (.cells #[.float .f64 x0, .float .f64 x1] 25)) : ∀ i, i < [x0, x1].length → W.cell? ⟨b, 0 + i, none⟩ = some (.float .f64 ([x0, x1].getD i 0)) := fun i hi => by
  match i, hi with
  | 0, _ => simp [World.cell?, h]
  | 1, _ => simp [World.cell?, h]
set_option maxHeartbeats 4000000 in
theorem nfPairs_any (sa sb : Option Addr) (N ca cb : Nat) (xs ys : List Nat) (hx : ∀ x ∈ xs, x < 18446744073709551616) (hy : ∀ x ∈ ys, x < 18446744073709551616) (hN : N ≤ 4096) (w : World) (ha : FltAt w.heap.size w (.slice sa N ca) xs) (hb : FltAt w.heap.size w (.slice sb N cb) ys) :
    Calls Tryz.prog 55 #[.slice sa N ca, .slice sb N cb] w fun r w' => ∃ u v, r = .returned (.tuple #[u, v]) ∧ Owns w' w.heap.size u (nfC xs ys N).1 ∧ Owns w' w.heap.size v (nfC xs ys N).2 ∧ ((nfC xs ys N).1 = [] → u = .slice none 0 0) ∧ ((nfC xs ys N).2 = [] → v = .slice none 0 0) ∧ Below w.heap.size w w' := by
  obtain ⟨i0, hi, hz0, hz1, hz2⟩ := info_parts info_f
  have HA := hid ha.get
  have HB := hid hb.get
  have HX : Hid (∀ j, j < N → xs.getD j 0 < 18446744073709551616) := fun j hj => hx _ (mem_get xs j (by rw [ha.get.1]; exact hj))
  have HY : Hid (∀ j, j < N → ys.getD j 0 < 18446744073709551616) := fun j hj => hy _ (mem_get ys j (by rw [hb.get.1]; exact hj))
  clear hx hy ha hb
  go_enter Tryz.func55, Tryz.ntmps55
  go_wp2_with fail
  go_loopw [6, 7, 13] (fun u v i wr => ∃ k : Nat, k ≤ N ∧ i = .int .i64 k ∧ Hid (Owns wr w.heap.size u (nfC xs ys k).1 ∧ Owns wr w.heap.size v (nfC xs ys k).2) ∧ Hid (((nfC xs ys k).1 = [] → u = .slice none 0 0) ∧ ((nfC xs ys k).2 = [] → v = .slice none 0 0)) ∧ Hid (ApartS u v) ∧ Hid (Below w.heap.size w wr)) (fun _ _ i _ => N - (intOf i).toNat)
  case atStart => exact ⟨0, Nat.zero_le _, rfl, ⟨World.ownsRow_nil _ _ _ _, World.ownsRow_nil _ _ _ _⟩, ⟨fun _ => rfl, fun _ => rfl⟩, (fun g h => by cases h), Below.refl _ _⟩
  case round =>
    obtain ⟨k, hk, rfl, HO, HNIL, HAP, HBW⟩ := hrel
    by_cases hlt : k < N
    · obtain ⟨b, off, rfl, hb1, hc1⟩ := HA.out.2 (by omega)
      obtain ⟨b2, off2, rfl, hb2, hc2⟩ := HB.out.2 (by omega)
      have g1 : wr.cell? ⟨b, off + k, none⟩ = some (.float .f64 (xs.getD k 0)) := (HBW.out.cell (p := ⟨b, off + k, none⟩) hb1).trans (hc1 k hlt)
      have g2 : wr.cell? ⟨b2, off2 + k, none⟩ = some (.float .f64 (ys.getD k 0)) := (HBW.out.cell (p := ⟨b2, off2 + k, none⟩) hb2).trans (hc2 k hlt)
      have hx := HX.out k hlt
      have hy := HY.out k hlt
      have HC : Hid (nfC xs ys (k + 1) = if allFin [xs.getD k 0, ys.getD k 0] = true then nfC xs ys k else ((nfC xs ys k).1 ++ [xs.getD k 0], (nfC xs ys k).2 ++ [ys.getD k 0])) := rfl
      have HF : Hid (∀ W b, b < W.heap.size → W.heap[b]? = some (.cells #[.float .f64 (xs.getD k 0), .float .f64 (ys.getD k 0)] 25) → Calls Tryz.prog 41 #[.slice (some ⟨b, 0, none⟩) 2 2] W fun r w' => r = .returned (.bool (allFin [xs.getD k 0, ys.getD k 0])) ∧ Below W.heap.size W w') := fun W b hb hc => Finite_any [xs.getD k 0, ys.getD k 0] b 0 2 W hb (list2F W b _ _ hc) (fun i hi => by match i, hi with
        | 0, _ => exact hx
        | 1, _ => exact hy) (by simp)
      have HL := hid (nfC_len xs ys k)
      obtain ⟨x, hxx⟩ : ∃ x, Hid (xs.getD k 0 = x) := ⟨_, rfl⟩
      obtain ⟨y, hyy⟩ : ∃ y, Hid (ys.getD k 0 = y) := ⟨_, rfl⟩
      rw [hxx.out, hyy.out] at HC HF
      rw [hxx.out] at g1
      rw [hyy.out] at g2
      have hkI : (k : Int) < (N : Int) := by omega
      have hk0 : (0 : Int) ≤ (k : Int) := by omega
      clear hc1 hc2 hb1 hb2 hx hy
      by_cases hf : allFin [x, y] = true
      · rw [hf] at HF
        rw [if_pos hf] at HC
        clear hf
        go_wp2_with fail
        refine (HF.out _ _ (by simp) (new_blk _ _ _ rfl)).mono ?_
        rintro r w1 ⟨rfl, hb1⟩
        have hb1' : Below wr.heap.size wr w1 := ((Below.refl _ _).alloc (Nat.le_refl _) _).trans (hb1.mono (by simp))
        have HO1 := hid (And.intro (HO.out.1.kept hb1') (HO.out.2.kept hb1'))
        have HB1 := hid (HBW.out.trans (hb1'.mono HBW.out.size))
        clear hb1 hb1'
        go_wp2
        refine ⟨⟨k + 1, by omega, by go_num, by rw [HC.out]; exact HO1, by rw [HC.out]; exact HNIL, HAP, HB1⟩, ?_⟩
        simp [intOf]; omega
      · have hf' : allFin [x, y] = false := by revert hf; cases allFin [x, y] <;> simp
        rw [hf'] at HF
        rw [if_neg hf] at HC
        clear hf hf'
        go_wp2_with fail
        refine (HF.out _ _ (by simp) (new_blk _ _ _ rfl)).mono ?_
        rintro r w1 ⟨rfl, hb1⟩
        have hb1' : Below wr.heap.size wr w1 := ((Below.refl _ _).alloc (Nat.le_refl _) _).trans (hb1.mono (by simp))
        have hO1 := HO.out.1.kept hb1'
        have hO2 := HO.out.2.kept hb1'
        have HB1 := hid (HBW.out.trans (hb1'.mono HBW.out.size))
        have hs1 := HB1.out.size
        obtain ⟨C, hC⟩ : ∃ C, Hid ((nfC xs ys k).1 = C) := ⟨_, rfl⟩
        obtain ⟨D, hD⟩ : ∃ D, Hid ((nfC xs ys k).2 = D) := ⟨_, rfl⟩
        rw [hC.out] at hO1 HC HL
        rw [hD.out] at hO2 HC HL
        have hl1 : C.length ≤ 4096 := by have := HL.out.2; omega
        have hl2 : D.length ≤ 4096 := by have := HL.out.1; omega
        unfold Owns at hO1 hO2
        clear hb1 hb1' HO HNIL
        go_wp2_with (first
          | (at_builtin; (refine wpList_append_own_at _ rfl _ _ 23 rfl w.heap.size 25 i0 (.float .f64 0) 1 8 Tryz.underlying23 hi hz0 hz1 hz2 rfl (by decide) _ _ _ rfl (hO1.alloc _) ⟨w1.heap.size, 0, none⟩ 1 1 [.float .f64 x] rfl rfl (cell_one_new _ _ _) (by simp [Value.oneCell']) (by unfold maxLen; omega) (by omega) (by simp; omega) ?_)))
        intro u' w2 hown1 hgr1 hn1 hblk1
        have hap1 := HAP.out.new hblk1 (fun g hg => by have := (World.ownsRow.lt hO2 g hg).2; omega)
        have hO2 := (hO2.alloc (.cells #[.float .f64 x] 25)).kept hgr1 HAP.out.ne
        have hB2 : Below w.heap.size w w2 := (HB1.out.alloc hs1 _).grown hgr1 (by simp; omega) (fun k hk => (World.ownsRow.lt hO1 k hk).1)
        have hs2 := hB2.size
        clear hO1 hgr1 hblk1
        go_wp2_with (first
          | (at_builtin; (refine wpList_append_own_at _ rfl _ _ 23 rfl w.heap.size 25 i0 (.float .f64 0) 1 8 Tryz.underlying23 hi hz0 hz1 hz2 rfl (by decide) _ _ _ rfl (hO2.alloc _) ⟨w2.heap.size, 0, none⟩ 1 1 [.float .f64 y] rfl rfl (cell_one_new _ _ _) (by simp [Value.oneCell']) (by unfold maxLen; omega) (by omega) (by simp; omega) ?_)))
        intro v' w3 hown2 hgr2 hn2 hblk2
        have hap2 : ApartS u' v' := (hap1.symm.new hblk2 (fun g hg => by have := (World.ownsRow.lt hown1 g hg).2; omega)).symm
        have hown1 := (hown1.alloc (.cells #[.float .f64 y] 25)).kept hgr2 hap1.symm.ne
        have hB3 : Below w.heap.size w w3 := (hB2.alloc hs2 _).grown hgr2 (by simp; omega) (fun k hk => (World.ownsRow.lt hO2 k hk).1)
        have HOW : Hid (Owns w3 w.heap.size u' (C ++ [x]) ∧ Owns w3 w.heap.size v' (D ++ [y])) := by
          refine ⟨?_, ?_⟩
          · show w3.ownsRow _ _ _ _ _ _
            rw [List.length_append, List.map_append]
            exact hown1
          · show w3.ownsRow _ _ _ _ _ _
            rw [List.length_append, List.map_append]
            exact hown2
        have HAP3 := hid hap2
        have HB3 := hid hB3
        clear hown1 hown2 hgr2 hblk2 hn1 hn2 hap1 hap2 hB2 hB3 hO2 hs2
        go_wp2
        refine ⟨⟨k + 1, by omega, by go_num, by rw [HC.out]; exact HOW, by rw [HC.out]; exact ⟨fun h => by simp at h, fun h => by simp at h⟩, HAP3, HB3⟩, ?_⟩
        simp [intOf]; omega
    · obtain rfl : k = N := by omega
      go_wp2
      go_ret2
      exact ⟨_, _, rfl, HO.out.1, HO.out.2, HNIL.out.1, HNIL.out.2, HBW.out⟩
end Go.Proofs.YtpjdmhidhllbkaaGreatDoor

namespace Go.Proofs.YtpjdmhidhllbkaaGreatDoor
open Go.RowKit Go.IntWalk

/-- A NaN or an infinity, canonical. -/
def Spc (p : Nat) : Prop := p = 9221120237041090561 ∨ p = 9218868437227405312 ∨ p = 18442240474082181120
def nP (ps : List Nat) : Bool := ps.any fun p => p == 9221120237041090561
def uP (ps : List Nat) : Bool := ps.any fun p => p == 9218868437227405312
def dP (ps : List Nat) : Bool := ps.any fun p => p == 18442240474082181120
theorem spc_step (n u d : Bool) (p : Nat) (hp : Spc p) : caf .add (spec3 n u d).1 (canonOf p) = (spec3 (n || p == 9221120237041090561) (u || p == 9218868437227405312) (d || p == 18442240474082181120)).1 := by
  rcases hp with rfl | rfl | rfl <;> cases n <;> cases u <;> cases d <;> decide +kernel
theorem spc_sumN : ∀ (n : Nat) (ps : List Nat), ps.length = n → (∀ p ∈ ps, Spc p) → sumC ps = (spec3 (nP ps) (uP ps) (dP ps)).1
  | 0, ps, hn, _ => by rw [List.length_eq_zero_iff.1 hn]; rfl
  | n + 1, ps, hn, hp => by
    rcases snoc_cases ps with rfl | ⟨qs, q, rfl⟩
    · cases hn
    · have ih := spc_sumN n qs (by simp at hn; exact hn) (fun x h => hp x (by simp [h]))
      have hq := hp q (by simp)
      rw [sumC_snoc, ih, spc_step _ _ _ q hq]
      unfold nP uP dP
      rw [any_snoc, any_snoc, any_snoc]
theorem spc_sum (ps : List Nat) (hp : ∀ p ∈ ps, Spc p) : sumC ps = (spec3 (nP ps) (uP ps) (dP ps)).1 := spc_sumN _ ps rfl hp
theorem spc_flag (ps : List Nat) (hp : ∀ p ∈ ps, Spc p) (h0 : ps ≠ []) : (spec3 (nP ps) (uP ps) (dP ps)).2 = true := by
  cases ps with
  | nil => exact absurd rfl h0
  | cons p t =>
    have : nP (p :: t) = true ∨ uP (p :: t) = true ∨ dP (p :: t) = true := by
      unfold nP uP dP
      rcases hp p (by simp) with rfl | rfl | rfl
      · left; simp
      · right; left; simp
      · right; right; simp
    unfold spec3
    rcases this with h | h | h <;> rw [h] <;> cases nP (p :: t) <;> cases uP (p :: t) <;> cases dP (p :: t) <;> first | rfl | simp
theorem xor_mod (x : Nat) : (x ^^^ 9223372036854775808) % 9223372036854775808 = x % 9223372036854775808 := by
  have h := Nat.xor_mod_two_pow (a := x) (b := 9223372036854775808) (n := 63)
  rw [show (2 : Nat) ^ 63 = 9223372036854775808 by decide] at h
  rw [h, Nat.mod_self, Nat.xor_zero]
theorem one_spc (z : Nat) (hz : z < 18446744073709551616) (h : Spc (canonOf z)) : nanB z = (canonOf z == 9221120237041090561) ∧ infB z 1 = (canonOf z == 9218868437227405312) ∧ infB z (-1) = (canonOf z == 18442240474082181120) := by
  rcases canon_is z hz with ⟨n1, e1⟩ | ⟨n1, e1⟩
  · rw [e1]
    unfold nanB infB
    rw [if_pos rfl, if_neg (by decide), order_nanL z _ n1.2, order_nanL z _ n1.2, order_nanL (z ^^^ 9223372036854775808) _ (by rw [xor_mod]; exact n1.2)]
    decide
  · rw [e1] at h ⊢
    rcases h with rfl | rfl | rfl
    · exact absurd nan_can n1
    · decide +kernel
    · decide +kernel
theorem all_spc : ∀ (zs : List Nat), (∀ z ∈ zs, z < 18446744073709551616) → (∀ p ∈ zs.map canonOf, Spc p) → naL zs = nP (zs.map canonOf) ∧ upL zs = uP (zs.map canonOf) ∧ dnL zs = dP (zs.map canonOf)
  | [], _, _ => ⟨rfl, rfl, rfl⟩
  | z :: t, hz, hp => by
    obtain ⟨i1, i2, i3⟩ := all_spc t (fun x h => hz x (by simp [h])) (fun p h => hp p (by simp only [List.map_cons, List.mem_cons]; exact Or.inr h))
    obtain ⟨j1, j2, j3⟩ := one_spc z (hz z (by simp)) (hp _ (by simp))
    unfold naL upL dnL nP uP dP at *
    simp only [List.map_cons, List.any_cons]
    rw [i1, i2, i3, j1, j2, j3]
    exact ⟨rfl, rfl, rfl⟩
/-- What the document's special answers of them. -/
theorem spc_told (zs ps : List Nat) (hm : zs.map canonOf = ps) (hz : ∀ z ∈ zs, z < 18446744073709551616) (hp : ∀ p ∈ ps, Spc p) : (spec3 (naL zs) (upL zs) (dnL zs)).1 = sumC ps ∧ (ps ≠ [] → (spec3 (naL zs) (upL zs) (dnL zs)).2 = true) ∧ (ps = [] → (spec3 (naL zs) (upL zs) (dnL zs)).2 = false) := by
  subst hm
  obtain ⟨i1, i2, i3⟩ := all_spc zs hz hp
  rw [i1, i2, i3]
  refine ⟨(spc_sum _ hp).symm, spc_flag _ hp, fun h => ?_⟩
  rw [h]
  rfl
theorem fin_read (x : Nat) (hx : x < 18446744073709551616) (h : ¬ x % 9223372036854775808 < 9218868437227405312) : (∃ s, FloatKind.f64.format.read x = .infinity s) ∨ (∃ s t, FloatKind.f64.format.read x = .nan s t) := by
  by_cases c : x % 9223372036854775808 = 9218868437227405312
  · exact Or.inl (read_infS x hx c)
  · exact Or.inr (read_nan x (by omega))
theorem caf_inf (s : Bool) : Spc (canonOf (FloatKind.f64.format.write (.infinity s))) := by unfold Spc; cases s <;> decide +kernel
theorem mul_spc (x y : Nat) (hx : x < 18446744073709551616) (hy : y < 18446744073709551616) (h : ¬ (x % 9223372036854775808 < 9218868437227405312 ∧ y % 9223372036854775808 < 9218868437227405312)) : Spc (caf .mul x y) := by
  unfold caf
  show Spc (((FloatKind.f64.format.mul x y).map canonOf).getD 9221120237041090561)
  unfold Ieee.Format.mul
  by_cases fx : x % 9223372036854775808 < 9218868437227405312
  · have fy : ¬ y % 9223372036854775808 < 9218868437227405312 := fun hh => h ⟨fx, hh⟩
    rcases fin_read y hy fy with ⟨s, e⟩ | ⟨s, t, e⟩
    · rw [e]
      cases FloatKind.f64.format.read x with
      | nan a b => exact Or.inl rfl
      | infinity a => exact caf_inf _
      | number a b c =>
        simp only [Ieee.Datum.product]
        split
        · exact Or.inl rfl
        · exact caf_inf _
    · rw [e]
      cases FloatKind.f64.format.read x <;> exact Or.inl rfl
  · rcases fin_read x hx fx with ⟨s, e⟩ | ⟨s, t, e⟩
    · rw [e]
      cases FloatKind.f64.format.read y with
      | nan a b => exact Or.inl rfl
      | infinity a => exact caf_inf _
      | number a b c =>
        simp only [Ieee.Datum.product]
        split
        · exact Or.inl rfl
        · exact caf_inf _
    · rw [e]
      exact Or.inl rfl
theorem exp_iff (x : Nat) : (expOf x == 2047) = !decide (x % 9223372036854775808 < 9218868437227405312) := by
  by_cases h : x % 9223372036854775808 < 9218868437227405312
  · rw [decide_eq_true h]
    have : expOf x ≠ 2047 := by
      unfold expOf canonOf
      split <;> omega
    simpa using this
  · rw [decide_eq_false h]
    have : expOf x = 2047 := by
      unfold expOf canonOf
      split <;> omega
    simpa using this
theorem allFin2 (x y : Nat) : allFin [x, y] = decide (x % 9223372036854775808 < 9218868437227405312 ∧ y % 9223372036854775808 < 9218868437227405312) := by
  unfold allFin
  simp only [List.all_cons, List.all_nil, Bool.and_true]
  rw [exp_iff x, exp_iff y, Bool.not_not, Bool.not_not, Bool.decide_and]
theorem canon_mod (x : Nat) (h : ¬ x % 9223372036854775808 < 9218868437227405312) : ¬ canonOf x % 9223372036854775808 < 9218868437227405312 := by
  unfold canonOf
  split
  · decide
  · exact h
theorem nfP_spc (xs ys : List Nat) : ∀ k, (∀ j, j < k → xs.getD j 0 < 18446744073709551616 ∧ ys.getD j 0 < 18446744073709551616) → ∀ p ∈ nfP xs ys k, Spc p
  | 0, _ => fun p hp => by cases hp
  | k + 1, h => fun p hp => by
    have ih := nfP_spc xs ys k (fun j hj => h j (by omega))
    unfold nfP at hp
    by_cases c : allFin [xs.getD k 0, ys.getD k 0] = true
    · rw [if_pos c] at hp; exact ih p hp
    · rw [if_neg c] at hp
      rcases List.mem_append.1 hp with hp | hp
      · exact ih p hp
      · obtain rfl : p = _ := by simpa using hp
        obtain ⟨h1, h2⟩ := h k (by omega)
        refine mul_spc _ _ (canon_lt h1) (canon_lt h2) (fun hh => ?_)
        rw [allFin2, decide_eq_true_iff] at c
        apply c
        refine ⟨?_, ?_⟩
        · apply Classical.byContradiction
          exact fun hc => canon_mod _ hc hh.1
        · apply Classical.byContradiction
          exact fun hc => canon_mod _ hc hh.2
theorem nfP_nil (xs ys : List Nat) : ∀ k, (∀ j, j < k → allFin [xs.getD j 0, ys.getD j 0] = true) → nfP xs ys k = []
  | 0, _ => rfl
  | k + 1, h => by
    unfold nfP
    rw [if_pos (h k (by omega))]
    exact nfP_nil xs ys k (fun j hj => h j (by omega))
theorem nfP_not (xs ys : List Nat) : ∀ k, (∃ j, j < k ∧ allFin [xs.getD j 0, ys.getD j 0] = false) → nfP xs ys k ≠ []
  | 0, ⟨j, hj, _⟩ => absurd hj (Nat.not_lt_zero j)
  | k + 1, ⟨j, hj, h⟩ => by
    unfold nfP
    by_cases c : allFin [xs.getD k 0, ys.getD k 0] = true
    · rw [if_pos c]
      refine nfP_not xs ys k ⟨j, ?_, h⟩
      have : j ≠ k := fun e => by rw [e] at h; rw [h] at c; cases c
      omega
    · rw [if_neg c]
      simp
theorem allFin_mem (xs : List Nat) : allFin xs = true ↔ ∀ j, j < xs.length → (expOf (xs.getD j 0) == 2047) = false := by
  unfold allFin
  rw [List.all_eq_true]
  constructor
  · intro h j hj
    have := h _ (mem_get xs j hj)
    simpa using this
  · intro h x hx
    obtain ⟨i, hi, rfl⟩ := List.getElem_of_mem hx
    have := h i hi
    rw [List.getD_eq_getElem?_getD, List.getElem?_eq_getElem hi] at this
    simpa using this
theorem pair_fin (xs ys : List Nat) (N : Nat) (h1 : xs.length = N) (h2 : ys.length = N) : ((allFin xs && allFin ys) = true → nfP xs ys N = []) ∧ ((allFin xs && allFin ys) = false → nfP xs ys N ≠ []) := by
  constructor
  · intro h
    obtain ⟨a, b⟩ := Bool.and_eq_true_iff.1 h
    rw [allFin_mem] at a b
    refine nfP_nil xs ys N (fun j hj => ?_)
    unfold allFin
    simp only [List.all_cons, List.all_nil, Bool.and_true]
    rw [a j (by omega), b j (by omega)]
    rfl
  · intro h
    apply nfP_not
    apply Classical.byContradiction
    intro hc
    have hall : ∀ j, j < N → allFin [xs.getD j 0, ys.getD j 0] = true := fun j hj => by
      cases c : allFin [xs.getD j 0, ys.getD j 0] with
      | true => rfl
      | false => exact absurd ⟨j, hj, c⟩ hc
    have e1 : ∀ j, j < N → (expOf (xs.getD j 0) == 2047) = false ∧ (expOf (ys.getD j 0) == 2047) = false := fun j hj => by
      have := hall j hj
      unfold allFin at this
      simp only [List.all_cons, List.all_nil, Bool.and_true, Bool.and_eq_true, Bool.not_eq_true'] at this
      exact this
    have a : allFin xs = true := (allFin_mem xs).2 (fun j hj => (e1 j (by omega)).1)
    have b : allFin ys = true := (allFin_mem ys).2 (fun j hj => (e1 j (by omega)).2)
    rw [a, b] at h
    cases h
end Go.Proofs.YtpjdmhidhllbkaaGreatDoor

namespace Go.Proofs.YtpjdmhidhllbkaaGreatDoor
open Go.RowKit Go.IntWalk

/-- The exact dot product, rounded once; the error's number. -/
def dotV (xs ys : List Nat) (N M : Nat) : Nat := if N ≠ M ∨ 4096 < N then 0 else if (allFin xs && allFin ys) = true then rndI (dotSv xs ys N) (-2148) else sumC (nfP xs ys N)
def dotE (N M : Nat) : Int := if N ≠ M then 3 else if 4096 < N then 2 else 0
theorem Owns.flt {w : World} {base : Nat} {v : Value} {xs : List Nat} (h : Owns w base v xs) (h0 : xs = [] → v = .slice none 0 0) : ∃ sa cap, v = .slice sa xs.length cap ∧ FltAt w.heap.size w (.slice sa xs.length cap) xs := by
  by_cases c : xs = []
  · exact ⟨none, 0, by rw [h0 c, c]; rfl, .inl ⟨by rw [c]; rfl, c⟩⟩
  · have hc := fun g hg => World.ownsRow.cells h (g := g) hg
    rcases h.2 with ⟨_, hn⟩ | ⟨g, cap, cur, rfl, h1, h2, h3, h4, _⟩
    · exact absurd (List.length_eq_zero_iff.1 hn) c
    · refine ⟨_, cap, rfl, .inr ⟨g, 0, cap, rfl, (Array.getElem?_eq_some_iff.1 h2).1, fun i hi => ?_⟩⟩
      have := hc g rfl i (.float .f64 (xs.getD i 0)) (by simp [hi, List.getD])
      have hadd : (⟨g, 0, none⟩ : Addr).add i = ⟨g, i, none⟩ := by unfold Addr.add; split <;> simp_all
      rw [hadd] at this
      rw [Nat.zero_add]
      exact this
theorem dot_size (xs ys : List Nat) (hf : FinL xs) (hg : FinL ys) (hl : ys.length = xs.length) (hn : xs.length ≤ 4096) : (dotSv xs ys xs.length).natAbs < 2 ^ (kN + kN + 13) := by
  have h1 := dot_le xs ys hf hg hl xs.length (Nat.le_refl _)
  rw [Nat.pow_add]
  have h0 : 0 < 2 ^ (kN + kN) := Nat.two_pow_pos _
  generalize 2 ^ (kN + kN) = P at h0 h1
  have h2 : xs.length * P ≤ 4096 * P := Nat.mul_le_mul_right _ hn
  omega
theorem nfC_mem (xs ys : List Nat) : ∀ k, (∀ j, j < k → xs.getD j 0 < 18446744073709551616 ∧ ys.getD j 0 < 18446744073709551616) → (∀ x ∈ (nfC xs ys k).1, x < 18446744073709551616) ∧ (∀ x ∈ (nfC xs ys k).2, x < 18446744073709551616)
  | 0, _ => ⟨(fun x hx => by cases hx), (fun x hx => by cases hx)⟩
  | k + 1, h => by
    obtain ⟨i1, i2⟩ := nfC_mem xs ys k (fun j hj => h j (by omega))
    unfold nfC
    by_cases c : allFin [xs.getD k 0, ys.getD k 0] = true
    · rw [if_pos c]; exact ⟨i1, i2⟩
    · rw [if_neg c]
      refine ⟨fun x hx => ?_, fun x hx => ?_⟩
      · rcases List.mem_append.1 hx with hx | hx
        · exact i1 x hx
        · obtain rfl : x = _ := by simpa using hx
          exact (h k (by omega)).1
      · rcases List.mem_append.1 hx with hx | hx
        · exact i2 x hx
        · obtain rfl : x = _ := by simpa using hx
          exact (h k (by omega)).2
set_option maxHeartbeats 2000000 in
theorem DotExact_any (sa sb : Option Addr) (N M ca cb : Nat) (xs ys : List Nat) (w : World) (ha : ListAt w sa N ca xs) (hb : ListAt w sb M cb ys) (hx : ∀ x ∈ xs, x < 18446744073709551616) (hy : ∀ x ∈ ys, x < 18446744073709551616) (hN : N ≤ 17592186043904) (hM : M ≤ 17592186043904) (hT : Tab w) (hg : 2 < w.heap.size) (hT3 : Tab32 w) (hs : 1 < w.heap.size) :
    Calls Tryz.prog 24 #[.slice sa N ca, .slice sb M cb] w fun r w' => r = .returned (.tuple #[.float .f64 (dotV xs ys N M), .int .i64 (dotE N M)]) ∧ Below w.heap.size w w' := by
  unfold dotV dotE
  by_cases h : N = M
  case neg =>
    rw [if_pos (show N ≠ M ∨ 4096 < N from Or.inl h), if_pos h]
    have hne : ((N : Int) != (M : Int)) = true := by simp; omega
    clear ha hb hx hy hN hM hT hg hT3 hs h
    go_enter Tryz.func24, Tryz.ntmps24
    go_wp2
    go_ret2
    exact ⟨rfl, Below.refl _ _⟩
  subst h
  have hne : ((N : Int) != (N : Int)) = false := by simp
  by_cases hl : 4096 < N
  · rw [if_pos (show N ≠ N ∨ 4096 < N from Or.inr hl), if_neg (show ¬ N ≠ N by simp), if_pos hl]
    have hI : (4096 : Int) < (N : Int) := by omega
    clear ha hb hx hy hN hM hT hg hT3 hs hl
    go_enter Tryz.func24, Tryz.ntmps24
    go_wp2
    go_ret2
    exact ⟨rfl, Below.refl _ _⟩
  rw [if_neg (show ¬ (N ≠ N ∨ 4096 < N) by omega), if_neg (show ¬ N ≠ N by simp), if_neg hl]
  have hnI : (N : Int) ≤ 4096 := by omega
  have hl1 := ha.1
  have hl2 := hb.1
  have HF1 := hid (fun W (hW : Below w.heap.size w W) => Finite_list sa N ca xs W (ha.below hW) hx (by omega))
  have HF2 := hid (fun W (hW : Below w.heap.size w W) => Finite_list sb N cb ys W (hb.below hW) hy (by omega))
  by_cases hf : (allFin xs && allFin ys) = true
  · rw [if_pos hf]
    obtain ⟨f1, f2⟩ := Bool.and_eq_true_iff.1 hf
    rw [f1] at HF1
    rw [f2] at HF2
    have HS : Hid (∀ W, Below w.heap.size w W → Calls Tryz.prog 56 #[.slice sa N ca, .slice sb N cb] W fun r w' => ∃ neg a k c e', r = .returned (.tuple #[.agg #[.bool neg, .slice a k c, .int .i64 e'], .int .i64 0]) ∧ Hid (DyAt w' neg a k c e' (dotSv xs ys N) (-2148)) ∧ Below W.heap.size W w') := fun W hW => by
      refine (Dot_list sa sb N N ca cb xs ys W (ha.below hW) (hb.below hW) hx hy (by omega) (hT.below hg hW) (Nat.lt_of_lt_of_le hg hW.size) (hT3.below hs hW) (Nat.lt_of_lt_of_le hs hW.size)).mono ?_
      rintro r w' ⟨neg, a, k, c, e', E, rfl, h1, _, _, h3⟩
      obtain ⟨rfl, h4⟩ := h1 rfl hf
      exact ⟨neg, a, k, c, e', rfl, h4, h3⟩
    have HR : Hid (∀ W neg a k c e', Below w.heap.size w W → DyAt W neg a k c e' (dotSv xs ys N) (-2148) → Calls Tryz.prog 57 #[.agg #[.bool neg, .slice a k c, .int .i64 e'], .int .i64 0] W fun r w' => r = .returned (.tuple #[.float .f64 (rndI (dotSv xs ys N) (-2148)), .int .i64 0]) ∧ Below W.heap.size W w') := fun W neg a k c e' hW hd => by
      have hz := dot_size xs ys (fin_iff xs hx f1) (fin_iff ys hy f2) (by omega) (by omega)
      rw [hl1] at hz
      exact Round0_dy neg a k c (kN + kN + 13) e' (dotSv xs ys N) (-2148) W hd hz (by have := kN_is; omega) (by have := kN_is; omega) (by decide) (hT.below hg hW) (Nat.lt_of_lt_of_le hg hW.size)
    obtain ⟨R, hR⟩ : ∃ R, Hid (rndI (dotSv xs ys N) (-2148) = R) := ⟨_, rfl⟩
    rw [hR.out] at HR ⊢
    clear ha hb hx hy hN hM hT hg hT3 hs hl hf f1 f2 hl1 hl2
    go_enter Tryz.func24, Tryz.ntmps24
    go_wp2_with fail
    refine (HF1.out _ (Below.refl _ _)).mono ?_
    rintro r w1 ⟨rfl, hb1⟩
    have HB1 := hid hb1
    clear hb1
    go_wp2_with fail
    refine (HF2.out _ HB1.out).mono ?_
    rintro r w2 ⟨rfl, hb2⟩
    have HB2 := hid (HB1.out.trans (hb2.mono HB1.out.size))
    clear hb2
    go_wp2_with fail
    refine (HS.out _ HB2.out).mono ?_
    rintro r w3 ⟨neg, a, k, c, e', rfl, HD, hb3⟩
    have HB3 := hid (HB2.out.trans (hb3.mono HB2.out.size))
    have hal : Below w3.heap.size w3 (w3.alloc (DyBox neg a k c e')) := (Below.refl _ _).alloc (Nat.le_refl _) _
    have HBV := hid (HB3.out.trans (hal.mono HB3.out.size))
    obtain ⟨c0, c1, c2⟩ := dcells_of (new_blk w3 (DyBox neg a k c e') w3.heap.size rfl)
    have HDV : Hid (DyAt (w3.alloc (DyBox neg a k c e')) neg a k c e' (dotSv xs ys N) (-2148)) := by
      obtain ⟨L, h1, h2, h3, h4⟩ := HD.out
      exact ⟨L, h1, h2, h3.below hal, h4⟩
    obtain ⟨V, hV⟩ : ∃ V, Hid (w3.alloc (DyBox neg a k c e') = V) := ⟨_, rfl⟩
    rw [hV.out] at HBV c0 c1 c2 HDV
    unfold DyBox at hV
    have hV' := hV.out
    clear hb3 hal
    go_wp2_with fail
    refine (HR.out _ _ _ _ _ _ HBV.out HDV.out).mono ?_
    rintro r w4 ⟨rfl, hb4⟩
    have HB4 := hid (HBV.out.trans (hb4.mono HBV.out.size))
    clear hb4
    go_wp2
    go_ret2
    exact ⟨rfl, HB4.out⟩
  · rw [if_neg hf]
    have hf' : (allFin xs && allFin ys) = false := by revert hf; cases (allFin xs && allFin ys) <;> simp
    have hmem : ∀ j, j < N → xs.getD j 0 < 18446744073709551616 ∧ ys.getD j 0 < 18446744073709551616 := fun j hj => ⟨hx _ (mem_get xs j (by omega)), hy _ (mem_get ys j (by omega))⟩
    have HNF : Hid (∀ W, Below w.heap.size w W → Calls Tryz.prog 55 #[.slice sa N ca, .slice sb N cb] W fun r w' => ∃ ua ub n c1 c2, r = .returned (.tuple #[.slice ua n c1, .slice ub n c2]) ∧ Hid (n ≤ 4096 ∧ n = (nfC xs ys N).1.length ∧ FltAt w'.heap.size w' (.slice ua n c1) (nfC xs ys N).1 ∧ FltAt w'.heap.size w' (.slice ub n c2) (nfC xs ys N).2) ∧ Below W.heap.size W w') := fun W hW => by
      refine (nfPairs_any sa sb N ca cb xs ys hx hy (by omega) W (ha.below hW).flt (hb.below hW).flt).mono ?_
      rintro r w' ⟨u, v, rfl, h1, h2, h3, h4, h5⟩
      obtain ⟨ua, c1, rfl, k1⟩ := h1.flt h3
      obtain ⟨ub, c2, rfl, k2⟩ := h2.flt h4
      obtain ⟨e1, e2⟩ := nfC_len xs ys N
      rw [← e1] at k2 ⊢
      exact ⟨ua, ub, _, c1, c2, rfl, ⟨by omega, rfl, k1, k2⟩, h5⟩
    have HP : Hid (∀ W ua ub n c1 c2, Hid (n ≤ 4096 ∧ n = (nfC xs ys N).1.length ∧ FltAt W.heap.size W (.slice ua n c1) (nfC xs ys N).1 ∧ FltAt W.heap.size W (.slice ub n c2) (nfC xs ys N).2) → Calls Tryz.prog 54 #[.slice ua n c1, .slice ub n c2] W fun r w' => ∃ zs, r = .returned (.slice (some ⟨W.heap.size, 0, none⟩) n n) ∧ Hid ((∀ W2, Below w'.heap.size w' W2 → Calls Tryz.prog 12 #[.slice (some ⟨W.heap.size, 0, none⟩) n n] W2 fun r w2 => r = .returned (.float .f64 (sumC (nfP xs ys N))) ∧ Below W2.heap.size W2 w2) ∧ zs = (0 : Nat)) ∧ Below W.heap.size W w') := fun W ua ub n c1 c2 hh => by
      obtain ⟨k0, k1, k2, k3⟩ := hh.out
      refine (products_any ua ub n c1 c2 _ _ (nfC_mem xs ys N hmem).1 (nfC_mem xs ys N hmem).2 (by omega) W k2 k3).mono ?_
      rintro r w' ⟨zs, rfl, h1, h2, h3, h4⟩
      refine ⟨0, rfl, ⟨fun W2 hW2 => ?_, rfl⟩, h4⟩
      have hf3 : FltAt W2.heap.size W2 (.slice (some ⟨W.heap.size, 0, none⟩) n n) zs := by
        rcases h3.below hW2 with h | ⟨b, off, c, q1, q2, q3⟩
        · exact .inl h
        · exact .inr ⟨b, off, c, q1, Nat.lt_of_lt_of_le q2 hW2.size, q3⟩
      have hzl : zs.length ≤ 17592186043904 := by have := h3.get.1; omega
      have := Left_any _ n n zs h2 hzl W2 hf3
      rw [← sumC_canon, h1, k1, nfP_is] at this
      rw [k1]
      exact this
    obtain ⟨R, hR⟩ : ∃ R, Hid (sumC (nfP xs ys N) = R) := ⟨_, rfl⟩
    rw [hR.out] at HP ⊢
    clear ha hb hx hy hN hM hT hg hT3 hs hl hf hmem hl1 hl2
    by_cases f1 : allFin xs = true
    · have f2 : allFin ys = false := by rw [f1, Bool.true_and] at hf'; exact hf'
      rw [f1] at HF1
      rw [f2] at HF2
      clear hf' f1 f2
      go_enter Tryz.func24, Tryz.ntmps24
      go_wp2_with fail
      refine (HF1.out _ (Below.refl _ _)).mono ?_
      rintro r w1 ⟨rfl, hb1⟩
      have HB1 := hid hb1
      clear hb1
      go_wp2_with fail
      refine (HF2.out _ HB1.out).mono ?_
      rintro r w2 ⟨rfl, hb2⟩
      have HB2 := hid (HB1.out.trans (hb2.mono HB1.out.size))
      clear hb2
      go_wp2_with fail
      refine (HNF.out _ HB2.out).mono ?_
      rintro r w3 ⟨ua, ub, n, c1, c2, rfl, HK, hb3⟩
      have HB3 := hid (HB2.out.trans (hb3.mono HB2.out.size))
      clear hb3
      go_wp2_with fail
      refine (HP.out _ _ _ _ _ _ HK).mono ?_
      rintro r w4 ⟨zs, rfl, HZ, hb4⟩
      have HB4 := hid (HB3.out.trans (hb4.mono HB3.out.size))
      clear hb4
      go_wp2_with fail
      refine (HZ.out.1 _ (Below.refl _ _)).mono ?_
      rintro r w5 ⟨rfl, hb5⟩
      have HB5 := hid (HB4.out.trans (hb5.mono HB4.out.size))
      clear hb5
      go_wp2
      go_ret2
      exact ⟨rfl, HB5.out⟩
    · have f1' : allFin xs = false := by revert f1; cases allFin xs <;> simp
      rw [f1'] at HF1
      clear hf' f1 f1'
      go_enter Tryz.func24, Tryz.ntmps24
      go_wp2_with fail
      refine (HF1.out _ (Below.refl _ _)).mono ?_
      rintro r w2 ⟨rfl, hb2⟩
      have HB2 := hid hb2
      clear hb2
      go_wp2_with fail
      refine (HNF.out _ HB2.out).mono ?_
      rintro r w3 ⟨ua, ub, n, c1, c2, rfl, HK, hb3⟩
      have HB3 := hid (HB2.out.trans (hb3.mono HB2.out.size))
      clear hb3
      go_wp2_with fail
      refine (HP.out _ _ _ _ _ _ HK).mono ?_
      rintro r w4 ⟨zs, rfl, HZ, hb4⟩
      have HB4 := hid (HB3.out.trans (hb4.mono HB3.out.size))
      clear hb4
      go_wp2_with fail
      refine (HZ.out.1 _ (Below.refl _ _)).mono ?_
      rintro r w5 ⟨rfl, hb5⟩
      have HB5 := hid (HB4.out.trans (hb5.mono HB4.out.size))
      clear hb5
      go_wp2
      go_ret2
      exact ⟨rfl, HB5.out⟩
end Go.Proofs.YtpjdmhidhllbkaaGreatDoor
