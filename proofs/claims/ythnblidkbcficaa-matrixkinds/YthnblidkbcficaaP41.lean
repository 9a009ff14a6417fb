
/- What MatrixPlaces wants besides: First of two, If, same; the errors told alike. -/
import Derived.Test.YthnblidkbcficaaP34
import Derived.Deep.Cut
import Derived.Test.YthnblidkbcficaaP40
namespace Go.Proofs.Ythnblidkbcficaa
open Go.RowKit Go.IntWalk

def I2 (a b : Int) : Obj := .cells #[.int .i64 a, .int .i64 b] 3
theorem First_two (b : Nat) (x y : Int) (w : World) (h : w.heap[b]? = some (I2 x y)) : Calls Try.prog 23 #[.slice (some ⟨b, 0, none⟩) 2 2] w fun e w' => e = .returned (.int .i64 (firstL [x, y])) ∧ w' = w :=
  First_any b 2 [x, y] rfl (by decide) w (fun j hj => by
    unfold I2 at h
    match j, hj with
    | 0, _ => simp [World.cell?, h]
    | 1, _ => simp [World.cell?, h])
theorem If_yes (E : Int) (w : World) : Calls Try.prog 24 #[.bool true, .int .i64 E] w fun e w' => e = .returned (.int .i64 E) ∧ w' = w := If_any true E w
theorem If_no (E : Int) (w : World) : Calls Try.prog 24 #[.bool false, .int .i64 E] w fun e w' => e = .returned (.int .i64 0) ∧ w' = w := If_any false E w
theorem same_zero (w : World) : Calls Try.prog 26 #[.float .f64 0, .float .f64 0] w fun e w' => e = .returned (.bool true) ∧ w' = w := sameq_any 0 0 w (by decide)
theorem same_fin (x : Nat) (w : World) (hx : x < 18446744073709551616) (fx : x % 9223372036854775808 < 9218868437227405312) : Calls Try.prog 26 #[.float .f64 x, .float .f64 x] w fun e w' => e = .returned (.bool true) ∧ w' = w := by
  have := sameq_any x x w hx
  rw [canq_fin fx, beq_self_eq_true] at this
  exact this
theorem finB_exp (x : Nat) (hx : x < 18446744073709551616) : (!(expOf x == 2047)) = finB x := by
  unfold finB
  by_cases h : x % 9223372036854775808 < 9218868437227405312
  · rw [decide_eq_true h]
    unfold expOf
    rw [canq_fin h, expq_fin h]
    rfl
  · rw [decide_eq_false h]
    cases hc : (expOf x == 2047) with
    | true => rfl
    | false => exact absurd (fin_exp hx hc) h
theorem f2 (a b : Int) : firstL [a, b] = if a = 0 then b else a := by
  unfold firstL
  by_cases h : a = 0
  · rw [if_pos h, if_pos h]
    unfold firstL
    by_cases h2 : b = 0
    · rw [if_pos h2]; exact h2.symm
    · rw [if_neg h2]
  · rw [if_neg h, if_neg h]
def outE (i r : Int) : Int := if i < 0 ∨ r ≤ i then 1 else 0
theorem row_span {r c i : Int} {n : Nat} {xs : List Nat} : spanE (chkM r c n xs) r c i 0 1 0 = firstL [chkM r c n xs, outE i r] := by
  rw [f2]
  unfold spanE outE
  by_cases hE : chkM r c n xs = 0
  · obtain ⟨R, C, rfl, rfl, h1, h2, _, _⟩ := chk_some hE
    rw [if_neg (fun h => h hE), if_pos hE]
    by_cases h : i < 0 ∨ (R : Int) ≤ i
    · rw [if_pos h, if_pos (by omega)]
    · rw [if_neg h, if_neg (by omega)]
  · rw [if_pos hE, if_neg hE]
theorem col_span {r c j : Int} {n : Nat} {xs : List Nat} : spanE (chkM r c n xs) r c 0 j 0 1 = firstL [chkM r c n xs, outE j c] := by
  rw [f2]
  unfold spanE outE
  by_cases hE : chkM r c n xs = 0
  · obtain ⟨R, C, rfl, rfl, h1, h2, _, _⟩ := chk_some hE
    rw [if_neg (fun h => h hE), if_pos hE]
    by_cases h : j < 0 ∨ (C : Int) ≤ j
    · rw [if_pos h, if_pos (by omega)]
    · rw [if_neg h, if_neg (by omega)]
  · rw [if_pos hE, if_neg hE]
theorem both_span {r c i j : Int} {n : Nat} {xs : List Nat} : spanE (chkM r c n xs) r c i j 1 1 = firstL [firstL [chkM r c n xs, outE i r], firstL [chkM r c n xs, outE j c]] := by
  rw [f2, f2, f2]
  unfold spanE outE
  by_cases hE : chkM r c n xs = 0
  · obtain ⟨R, C, rfl, rfl, h1, h2, _, _⟩ := chk_some hE
    rw [if_neg (fun h => h hE), if_pos hE, if_pos hE]
    by_cases h : i < 0 ∨ (R : Int) ≤ i
    · rw [if_pos h, if_pos (by omega), if_neg (by decide)]
    · rw [if_neg h, if_pos rfl]
      by_cases h3 : j < 0 ∨ (C : Int) ≤ j
      · rw [if_pos h3, if_pos (by omega)]
      · rw [if_neg h3, if_neg (by omega)]
  · rw [if_pos hE, if_neg hE, if_neg hE]
theorem with_first (F : Int) (x : Nat) : withE F x = firstL [F, if finB x = true then 0 else 4] := by
  rw [f2]
  unfold withE
  by_cases h : F = 0
  · rw [if_neg (fun hc => hc h), if_pos h]
  · rw [if_pos h, if_neg h]
theorem zero_both {E a b : Int} (h : firstL [firstL [E, a], firstL [E, b]] = 0) : firstL [E, a] = 0 ∧ firstL [E, b] = 0 := by
  rw [f2] at h
  by_cases h1 : firstL [E, a] = 0
  · rw [if_pos h1] at h; exact ⟨h1, h⟩
  · rw [if_neg h1] at h; exact absurd h h1
theorem with_zero {F : Int} {x : Nat} (h : withE F x = 0) : F = 0 ∧ finB x = true := by
  unfold withE at h
  by_cases hF : F = 0
  · rw [if_neg (fun hc => hc hF)] at h
    cases hc : finB x with
    | true => exact ⟨hF, rfl⟩
    | false => rw [hc, if_neg (by decide)] at h; cases h
  · rw [if_pos hF] at h; exact absurd h hF
end Go.Proofs.Ythnblidkbcficaa

namespace Go.Proofs.Ythnblidkbcficaa
open Go.RowKit Go.IntWalk

set_option maxRecDepth 4000 in
set_option maxHeartbeats 1000000 in
theorem Scale_bad (r c : Int) (n s : Nat) (sa : Option Addr) (ka : Nat) (xs : List Nat) (w : World) (ha : FlM w sa n ka xs) (hn : n ≤ 17592186043904) (hE : chkM r c n xs ≠ 0) :
    Calls Try.prog 52 #[.agg #[.int .i64 r, .int .i64 c, .slice sa n ka], .float .f64 s] w fun e w' => e = .returned (NonM (chkM r c n xs)) ∧ Below w.heap.size w w' := by
  obtain ⟨t1, t2, t3, t4, t5⟩ := three_b w (MBox r c sa n ka) (FBox s) (MBox 0 0 none 0 0)
  have HCB := hid (fun W (hW : Below w.heap.size w W) => Check_any r c sa n ka xs W (ha.below hW) hn)
  obtain ⟨E, hEE⟩ : ∃ E, Hid (chkM r c n xs = E) := ⟨_, rfl⟩
  rw [hEE.out] at HCB hE
  rw [hEE.out]
  have hne : (E != 0) = true := by simpa using hE
  obtain ⟨V, hV⟩ : ∃ V, Hid (((w.alloc (MBox r c sa n ka)).alloc (FBox s)).alloc (MBox 0 0 none 0 0) = V) := ⟨_, rfl⟩
  rw [hV.out] at t1 t2 t3 t4 t5
  have hV' := hV.out
  have HB := hid t4
  have HR := hid t3
  have HA1 := hid t2
  obtain ⟨x0, x1, x2⟩ := mcells_of t1
  have v0 := fcell_of t2
  unfold MBox FBox at hV'
  unfold NonM
  unfold MV at HCB ⊢
  clear t1 t2 t3 t4 t5 ha hn hE
  go_enter Try.func52, Try.ntmps52
  go_wp2_with fail
  refine (HCB.out _ HB.out).mono ?_
  rintro e w1 ⟨rfl, hb1⟩
  have HB1 := hid (HB.out.trans (hb1.mono HB.out.size))
  have HR1 := hid (blkM HR.out hb1)
  have v0 := fcell_of (blkM HA1.out hb1)
  clear hb1
  go_wp2_with fail
  refine (refused_any E _).mono ?_
  rintro e w2 ⟨rfl, hb2⟩
  have HB2 := hid (HB1.out.trans (hb2.mono HB1.out.size))
  have HR2 := hid (blkM HR1.out hb2)
  obtain ⟨r0, r1, r2⟩ := mcells_of HR2.out
  have fz := frzM HR2.out
  unfold MV
  clear hb2
  go_wp2_with fail
  exact bodyPost_ret (v := .tuple #[MV 0 0 none 0 0, .int .i64 E]) (by simp [results, Try.results52, go_sem, r0, r1, r2, MV]) rfl ⟨rfl, StoM.below HB2.out (by omega)⟩
set_option maxRecDepth 4000 in
set_option maxHeartbeats 1000000 in
theorem Scale_num (r c : Int) (n s : Nat) (sa : Option Addr) (ka : Nat) (xs : List Nat) (w : World) (ha : FlM w sa n ka xs) (hn : n ≤ 17592186043904) (hE : chkM r c n xs = 0) (hs : s < 18446744073709551616) (hf : finB s = false) :
    Calls Try.prog 52 #[.agg #[.int .i64 r, .int .i64 c, .slice sa n ka], .float .f64 s] w fun e w' => e = .returned (NonM 4) ∧ Below w.heap.size w w' := by
  obtain ⟨t1, t2, t3, t4, t5⟩ := three_b w (MBox r c sa n ka) (FBox s) (MBox 0 0 none 0 0)
  have HCB := hid (fun W (hW : Below w.heap.size w W) => Check_any r c sa n ka xs W (ha.below hW) hn)
  rw [hE] at HCB
  have HIS := hid (fun W => isfinq_any s W hs)
  rw [hf] at HIS
  obtain ⟨V, hV⟩ : ∃ V, Hid (((w.alloc (MBox r c sa n ka)).alloc (FBox s)).alloc (MBox 0 0 none 0 0) = V) := ⟨_, rfl⟩
  rw [hV.out] at t1 t2 t3 t4 t5
  have hV' := hV.out
  have HB := hid t4
  have HR := hid t3
  have HA1 := hid t2
  obtain ⟨x0, x1, x2⟩ := mcells_of t1
  have v0 := fcell_of t2
  unfold MBox FBox at hV'
  unfold NonM
  unfold MV at HCB ⊢
  clear t1 t2 t3 t4 t5 ha hn hE hs hf
  go_enter Try.func52, Try.ntmps52
  go_wp2_with fail
  refine (HCB.out _ HB.out).mono ?_
  rintro e w1 ⟨rfl, hb1⟩
  have HB1 := hid (HB.out.trans (hb1.mono HB.out.size))
  have HR1 := hid (blkM HR.out hb1)
  have v0 := fcell_of (blkM HA1.out hb1)
  clear hb1
  go_wp2_with fail
  refine (HIS.out _).mono ?_
  rintro e ww ⟨rfl, hw⟩
  rw [hw]
  clear hw
  go_wp2_with fail
  refine (refused_any 4 _).mono ?_
  rintro e w2 ⟨rfl, hb2⟩
  have HB2 := hid (HB1.out.trans (hb2.mono HB1.out.size))
  have HR2 := hid (blkM HR1.out hb2)
  obtain ⟨r0, r1, r2⟩ := mcells_of HR2.out
  have fz := frzM HR2.out
  unfold MV
  clear hb2
  go_wp2_with fail
  exact bodyPost_ret (v := .tuple #[MV 0 0 none 0 0, .int .i64 4]) (by simp [results, Try.results52, go_sem, r0, r1, r2, MV]) rfl ⟨rfl, StoM.below HB2.out (by omega)⟩
set_option maxRecDepth 4000 in
set_option maxHeartbeats 2000000 in
theorem rScale_ok (r c n s : Nat) (sa : Option Addr) (ka : Nat) (f : Nat → Nat) (w : World) (ha : Gd w r c sa n ka f) (hs : s < 18446744073709551616) (fs : s % 9223372036854775808 < 9218868437227405312) :
    Calls Try.prog 51 #[MV r c sa n ka, .float .f64 s] w fun e w' => (∃ (g : Nat) (o : Nat → Nat), e = .returned (AnsM r c (r * c) g o) ∧ FnM w' (some ⟨g, 0, none⟩) (r * c) (r * c) o ∧ ∀ i j, i < r → j < c → canonOf (o (i * c + j)) = caf .mul (canonOf (f (i * c + j))) (canonOf s)) ∧ Below w.heap.size w w' := by
  obtain ⟨t1, t2, t3, t4⟩ := two_b w (MBox r c sa n ka) (MBox 0 0 none 0 0)
  have HZ0 := hid (fun W => rRaw_any r c (by have := ha.1; omega) (by have := ha.2.1; omega) W)
  have HNN : Hid (n = r * c ∧ r * c ≤ 144) := ⟨ha.2.2.1, by have := ha.le; rw [ha.2.2.1] at this; exact this⟩
  have HFA := hid ha.2.2.2.1
  have HXA := hid (fun i (hi : i < r * c) => gd_fin ha i hi)
  have HSS := hid (And.intro hs fs)
  obtain ⟨N, hN⟩ : ∃ p, Hid (r * c = p) := ⟨_, rfl⟩
  rw [hN.out] at HZ0 HNN HXA
  have HOV := hid (fun W o (h : FnM W (some ⟨w.heap.size + 2 + 1, 0, none⟩) N N o) => Over_any r c N _ N o W h (by have := HNN.out.2; omega))
  rw [hN.out]
  have hnn := HNN.out.1.symm
  subst hnn
  obtain ⟨V, hV⟩ : ∃ V, Hid ((w.alloc (MBox r c sa N ka)).alloc (MBox 0 0 none 0 0) = V) := ⟨_, rfl⟩
  rw [hV.out] at t1 t2 t3 t4
  have hV' := hV.out
  unfold MBox at hV'
  obtain ⟨g, hg⟩ : ∃ t, Hid (V.heap.size + 1 = t) := ⟨_, rfl⟩
  have hgg : w.heap.size + 2 + 1 = g := by rw [← t4, hg.out]
  rw [hgg] at HOV
  have HZ := hid (HZ0.out V)
  rw [hg.out] at HZ
  clear HZ0 hgg
  obtain ⟨p0, hp0⟩ : ∃ t, Hid (w.heap.size = t) := ⟨_, rfl⟩
  obtain ⟨rb, hrb⟩ : ∃ t, Hid (p0 + 1 = t) := ⟨_, rfl⟩
  rw [hp0.out] at t1 t2
  rw [hrb.out] at t2
  have HT1 := hid t1
  have HT3 := hid t2
  have HT4 := hid t3
  have HT5 := hid t4
  have hp0' := hp0.out
  have hrb' := hrb.out
  obtain ⟨x0, x1, x2⟩ := mcells_of t1
  unfold MV
  clear t1 t2 t3 t4 ha hs fs
  have hst := fstoreM
  go_enter Try.func51, Try.ntmps51
  go_wp2_with fail
  refine HZ.out.mono ?_
  rintro e w1 ⟨rfl, h1, h2⟩
  have hal : Below w1.heap.size w1 (w1.alloc (MBox r c (some ⟨g, 0, none⟩) N N)) := (Below.refl _ _).alloc (Nat.le_refl _) _
  have hlt : g < w1.heap.size := h1.lt
  obtain ⟨mb, hmb⟩ : ∃ t, Hid (w1.heap.size = t) := ⟨_, rfl⟩
  have HFR : Hid (Fr5 w (w1.alloc (MBox r c (some ⟨g, 0, none⟩) N N)) p0 rb mb mb (MBox r c sa N ka) (MBox 0 0 none 0 0) (MBox r c (some ⟨g, 0, none⟩) N N) (MBox r c (some ⟨g, 0, none⟩) N N)) := by
    refine ⟨(HT4.out.trans (h2.mono HT4.out.size)).trans (hal.mono (Nat.le_trans HT4.out.size h2.size)), blkM (blkM HT1.out h2) hal, blkM (blkM HT3.out h2) hal, ?_, ?_⟩ <;> (rw [← hmb.out]; exact nblkM _ _)
  have HR0 : Hid ((w1.alloc (MBox r c (some ⟨g, 0, none⟩) N N)).rowIs g 51 N (fun _ => .float .f64 0)) := h1.of_block (hal.block _ hlt)
  have HNE : Hid (p0 ≠ g ∧ rb ≠ g ∧ mb ≠ g ∧ mb ≠ g ∧ w.heap.size ≤ g) := by
    have e1 := hp0.out; have e3 := hrb.out; have e4 := hmb.out; have e5 := hg.out; have e6 := HT5.out
    show _ ∧ _ ∧ _ ∧ _ ∧ _
    omega
  have HRB : Hid (w.heap.size ≤ rb) := by
    have e1 := hp0.out; have e3 := hrb.out
    show _ ≤ _
    omega
  obtain ⟨V1, hV1⟩ : ∃ V, Hid (w1.alloc (MBox r c (some ⟨g, 0, none⟩) N N) = V) := ⟨_, rfl⟩
  rw [hV1.out] at HFR HR0
  have hW1 := hV1.out
  have hmb' := hmb.out
  unfold MBox at hW1
  unfold MV
  clear h1 h2 hal HZ hlt x0 x1 x2
  go_wp2_with fail
  go_loopw [7] (fun iv wr => ∃ (i : Nat) (o : Nat → Nat), i ≤ N ∧ iv = .int .i64 i ∧ Hid (wr.rowIs g 51 N (fun k => .float .f64 (o k))) ∧ Hid (∀ k, k < i → canonOf (o k) = caf .mul (canonOf (f k)) (canonOf s) ∧ o k < 18446744073709551616) ∧ Hid (Fr5 w wr p0 rb mb mb (MBox r c sa N ka) (MBox 0 0 none 0 0) (MBox r c (some ⟨g, 0, none⟩) N N) (MBox r c (some ⟨g, 0, none⟩) N N))) (fun iv _ => N - (intOf iv).toNat)
  case atStart => exact ⟨0, fun _ => 0, Nat.zero_le _, rfl, HR0, fun k hk => absurd hk (Nat.not_lt_zero k), HFR⟩
  case round =>
    obtain ⟨i, o, hi, rfl, HR, HP, HFW⟩ := hrel
    obtain ⟨m0, m1, m2⟩ := mcells_of HFW.out.2.2.2.2
    have h144 := HNN.out.2
    by_cases hlt : i < N
    · have hiI : (i : Int) < (N : Int) := by omega
      have hi0 : (0 : Int) ≤ (i : Int) := by omega
      obtain ⟨ba, oa, hsa, hba, _, _, hca⟩ : ∃ b off, sa = some ⟨b, off, none⟩ ∧ b < w.heap.size ∧ N ≤ ka ∧ ka ≤ 9223372036854775807 ∧ ∀ j, j < N → w.cell? ⟨b, off + j, none⟩ = some (.float .f64 (f j)) ∧ f j < 18446744073709551616 := by
        rcases HFA.out with ⟨_, h, _⟩ | h
        · omega
        · exact h
      subst hsa
      obtain ⟨z, hz, hzl, hzc⟩ := fin_some ok_m w (f i) s (hca i hlt).2 HSS.out.1 (HXA.out i hlt).2 HSS.out.2
      have HKS : Hid (∀ W, Hid (Fr5 w W p0 rb mb mb (MBox r c (some ⟨ba, oa, none⟩) N ka) (MBox 0 0 none 0 0) (MBox r c (some ⟨g, 0, none⟩) N N) (MBox r c (some ⟨g, 0, none⟩) N N)) → (W.cell? ⟨mb, 0, none⟩ = some (.int .i64 r) ∧ W.cell? ⟨mb, 1, none⟩ = some (.int .i64 c) ∧ W.cell? ⟨mb, 2, none⟩ = some (.slice (some ⟨g, 0, none⟩) N N) ∧ W.cell? ⟨p0, 2, none⟩ = some (.slice (some ⟨ba, oa, none⟩) N ka) ∧ W.cell? ⟨ba, oa + i, none⟩ = some (.float .f64 (f i))) ∧ Hid (Fr5 w W p0 rb mb mb (MBox r c (some ⟨ba, oa, none⟩) N ka) (MBox 0 0 none 0 0) (MBox r c (some ⟨g, 0, none⟩) N N) (MBox r c (some ⟨g, 0, none⟩) N N))) := fun W hW => by
        obtain ⟨a0, a1, a2⟩ := mcells_of hW.out.2.1
        obtain ⟨n0, n1, n2⟩ := mcells_of hW.out.2.2.2.2
        exact ⟨⟨n0, n1, n2, a2, (hW.out.1.cell (p := ⟨ba, oa + i, none⟩) hba).trans (hca i hlt).1⟩, hW⟩
      have HCELL : Hid (wr.drew.cell? ⟨g, i, none⟩ = some (.float .f64 (o i))) := HR.out.cell hlt
      have HFRZ : Hid (wr.drew.frozen? ⟨g, i, none⟩ = false) := HR.out.frozen _
      have HQ0 : Hid (Fr5 w wr.drew p0 rb mb mb (MBox r c (some ⟨ba, oa, none⟩) N ka) (MBox 0 0 none 0 0) (MBox r c (some ⟨g, 0, none⟩) N N) (MBox r c (some ⟨g, 0, none⟩) N N)) := HFW.out.drew
      have HG4 : Hid (Fr5 w (wr.drew.setCell ⟨g, i, none⟩ (.float .f64 z)) p0 rb mb mb (MBox r c (some ⟨ba, oa, none⟩) N ka) (MBox 0 0 none 0 0) (MBox r c (some ⟨g, 0, none⟩) N N) (MBox r c (some ⟨g, 0, none⟩) N N)) := HQ0.out.set HNE.out.1 HNE.out.2.1 HNE.out.2.2.1 HNE.out.2.2.2.1 HNE.out.2.2.2.2 _
      have HRD : Hid (wr.drew.rowIs g 51 N (fun k => .float .f64 (o k))) := HR.out.of_block rfl
      have HR4 : Hid ((wr.drew.setCell ⟨g, i, none⟩ (.float .f64 z)).rowIs g 51 N (fun t => .float .f64 (if t = i then z else o t))) := by
        refine (HRD.out.set i _).congr (fun t _ => ?_)
        by_cases ht : t = i <;> simp [ht]
      have HP4 : Hid (∀ k, k < i + 1 → canonOf (if k = i then z else o k) = caf .mul (canonOf (f k)) (canonOf s) ∧ (if k = i then z else o k) < 18446744073709551616) := fun k hk => by
        by_cases hki : k = i
        · rw [if_pos hki, hki]; exact ⟨hzc, hzl⟩
        · rw [if_neg hki]; exact HP.out k (by omega)
      have hrun := f_mul hz
      have HLT := hid hlt
      obtain ⟨x, hx⟩ : ∃ t, Hid (f i = t) := ⟨_, rfl⟩
      rw [hx.out] at HKS hrun
      clear hz hzl hzc hca hba hlt
      go_wp2_with fail
      refine wp_region_held_drew (S := fun W => (W.cell? ⟨mb, 0, none⟩ = some (.int .i64 r) ∧ W.cell? ⟨mb, 1, none⟩ = some (.int .i64 c) ∧ W.cell? ⟨mb, 2, none⟩ = some (.slice (some ⟨g, 0, none⟩) N N) ∧ W.cell? ⟨p0, 2, none⟩ = some (.slice (some ⟨ba, oa, none⟩) N ka) ∧ W.cell? ⟨ba, oa + i, none⟩ = some (.float .f64 x)) ∧ Hid (Fr5 w W p0 rb mb mb (MBox r c (some ⟨ba, oa, none⟩) N ka) (MBox 0 0 none 0 0) (MBox r c (some ⟨g, 0, none⟩) N N) (MBox r c (some ⟨g, 0, none⟩) N N))) (by kernel_rfl) (HKS.out _ HQ0) (fun hHeld => ?_)
      refine take_at 0 20 (.pointer (some ⟨mb, 2, none⟩)) rfl rfl (by kernel_rfl) (by kernel_rfl) (by kernel_rfl) (fun _ _ _ h => h) (Or.inl ⟨by rfl, fun w hSw => by (try dsimp only at hSw); go_simp⟩) (by assumption) ?_
      simp only [Act.put, List.setIfInBounds_toArray, List.set_cons_zero, List.set_cons_succ]
      refine take_at 1 21 (.slice (some ⟨g, 0, none⟩) N N) rfl rfl (by kernel_rfl) (by kernel_rfl) (by kernel_rfl) (fun _ _ _ h => h) (Or.inl ⟨by rfl, fun w hSw => by (try dsimp only at hSw); go_simp⟩) (by assumption) ?_
      simp only [Act.put, List.setIfInBounds_toArray, List.set_cons_zero, List.set_cons_succ]
      refine take_at 2 22 (.int .i64 i) rfl rfl (by kernel_rfl) (by kernel_rfl) (by kernel_rfl) (fun _ _ _ h => h) (Or.inl ⟨by rfl, fun w hSw => by (try dsimp only at hSw); go_simp⟩) (by assumption) ?_
      simp only [Act.put, List.setIfInBounds_toArray, List.set_cons_zero, List.set_cons_succ]
      refine take_at 3 23 (.pointer (some ⟨p0, 2, none⟩)) rfl rfl (by kernel_rfl) (by kernel_rfl) (by kernel_rfl) (fun _ _ _ h => h) (Or.inl ⟨by rfl, fun w hSw => by (try dsimp only at hSw); go_simp⟩) (by assumption) ?_
      simp only [Act.put, List.setIfInBounds_toArray, List.set_cons_zero, List.set_cons_succ]
      refine take_at 4 24 (.slice (some ⟨ba, oa, none⟩) N ka) rfl rfl (by kernel_rfl) (by kernel_rfl) (by kernel_rfl) (fun _ _ _ h => h) (Or.inl ⟨by rfl, fun w hSw => by (try dsimp only at hSw); go_simp⟩) (by assumption) ?_
      simp only [Act.put, List.setIfInBounds_toArray, List.set_cons_zero, List.set_cons_succ]
      refine take_at 5 25 (.int .i64 i) rfl rfl (by kernel_rfl) (by kernel_rfl) (by kernel_rfl) (fun _ _ _ h => h) (Or.inl ⟨by rfl, fun w hSw => by (try dsimp only at hSw); go_simp⟩) (by assumption) ?_
      simp only [Act.put, List.setIfInBounds_toArray, List.set_cons_zero, List.set_cons_succ]
      refine take_at 6 26 (.pointer (some ⟨ba, oa + i, none⟩)) rfl rfl (by kernel_rfl) (by kernel_rfl) (by kernel_rfl) (fun _ _ _ h => h) (Or.inl ⟨by rfl, fun w hSw => by (try dsimp only at hSw); go_simp⟩) (by assumption) ?_
      simp only [Act.put, List.setIfInBounds_toArray, List.set_cons_zero, List.set_cons_succ]
      refine take_at 7 27 (.float .f64 x) rfl rfl (by kernel_rfl) (by kernel_rfl) (by kernel_rfl) (fun _ _ _ h => h) (Or.inl ⟨by rfl, fun w hSw => by (try dsimp only at hSw); go_simp⟩) (by assumption) ?_
      simp only [Act.put, List.setIfInBounds_toArray, List.set_cons_zero, List.set_cons_succ]
      refine take_at 8 28 (.float .f64 s) rfl rfl (by kernel_rfl) (by kernel_rfl) (by kernel_rfl) (fun _ _ _ h => h) (Or.inl ⟨by rfl, fun w hSw => by (try dsimp only at hSw); go_simp⟩) (by assumption) ?_
      simp only [Act.put, List.setIfInBounds_toArray, List.set_cons_zero, List.set_cons_succ]
      refine take_at 9 29 (.float .f64 z) rfl rfl (by kernel_rfl) (by kernel_rfl) (by kernel_rfl) (fun _ _ _ h => h) (Or.inl ⟨by rfl, fun w hSw => by (try dsimp only at hSw); go_simp⟩) (by assumption) ?_
      simp only [Act.put, List.setIfInBounds_toArray, List.set_cons_zero, List.set_cons_succ]
      refine take_at 10 30 (.pointer (some ⟨g, i, none⟩)) rfl rfl (by kernel_rfl) (by kernel_rfl) (by kernel_rfl) (fun _ _ _ h => h) (Or.inl ⟨by rfl, fun w hSw => by (try dsimp only at hSw); go_simp⟩) (by assumption) ?_
      simp only [Act.put, List.setIfInBounds_toArray, List.set_cons_zero, List.set_cons_succ]
      refine wpAnyH_ready (rs := [11]) (by kernel_rfl) (by simp) ?_
      refine AllReadyH.cons (o := _) rfl (fun K hK => ?_) AllReadyH.nil
      have zc := HCELL.out
      have fzz := HFRZ.out
      go_simp
      go_wp2_with fail
      refine hK.out _ _ (HKS.out _ HG4) (fun hHeld4 => ?_)
      clear hK K
      try simp only [Act.put, List.setIfInBounds_toArray, List.set_cons_zero, List.set_cons_succ]
      refine wpAnyH_done (by kernel_rfl) ?_ _
      go_wp2_with fail
      have hi1 := HLT.out
      refine ⟨⟨i + 1, fun t => if t = i then z else o t, by omega, by go_num, HR4, HP4, HG4⟩, ?_⟩
      simp [intOf]; omega
    · obtain rfl : i = N := by omega
      have HFO := hid (HOV.out wr o (rowF (HR.out) (fun k hk => (HP.out k hk).2) h144))
      obtain ⟨X0, X1, X2, X3, X4, hXX⟩ : ∃ a b s m k, Hid ((if finF i o = true then MV r c (some ⟨g, 0, none⟩) i i else MV 0 0 none 0 0) = MV a b s m k) := by
        by_cases q : finF i o = true
        · exact ⟨r, c, _, _, _, by show _ = _; rw [if_pos q]⟩
        · exact ⟨0, 0, _, _, _, by show _ = _; rw [if_neg q]⟩
      obtain ⟨E, hE⟩ : ∃ E, Hid ((if finF i o = true then 0 else 5 : Int) = E) := ⟨_, rfl⟩
      have HFN := hid (rowF (HR.out) (fun k hk => (HP.out k hk).2) h144)
      rw [hXX.out, hE.out] at HFO
      unfold MV at HFO
      go_wp2_with fail
      refine HFO.out.mono ?_
      rintro e w3 ⟨rfl, hk3, hb3⟩
      have HFR3 := hid (HFW.out.call hb3)
      have HFN3 := hid (hk3 _ _ _ _ HFN.out)
      obtain ⟨y0, y1, y2⟩ := mcells_of HFR3.out.2.2.1
      have fz := frzM HFR3.out.2.2.1
      clear hb3 hk3
      go_wp2_with fail
      refine bodyPost_ret (v := AnsM r c i g o) (by unfold AnsM; rw [hXX.out, hE.out]; simp [results, Try.results51, go_sem, y0, y1, y2, MV]) rfl ⟨⟨g, o, rfl, StoM.fn HFN3.out HFR3.out.2.2.1, fun a b ha hb => ?_⟩, StoM.below HFR3.out.1 HRB.out⟩
      exact (HP.out _ (by rw [← hN.out]; exact place_lt ha hb)).1
/-- The numbers of a multiple. -/
def sclV (xs : List Nat) (s c : Nat) (i j : Nat) : Nat := caf .mul (canonOf (xs.getD (i * c + j) 0)) (canonOf s)
def sclT (rx cx : Int) (n : Nat) (xs : List Nat) (s : Nat) : Int := if withE (chkM rx cx n xs) s = 0 then (if finV rx.toNat cx.toNat (sclV xs s cx.toNat) = true then 0 else 5) else withE (chkM rx cx n xs) s
theorem fin_of {s : Nat} (h : finB s = true) : s % 9223372036854775808 < 9218868437227405312 := by unfold finB at h; exact of_decide_eq_true h
theorem Scale_tot (rx cx : Int) (sa : Option Addr) (n ka : Nat) (xs : List Nat) (s : Nat) (w : World) (ha : FlM w sa n ka xs) (hn : n ≤ 17592186043904) (hs : s < 18446744073709551616) :
    Calls Try.prog 52 #[.agg #[.int .i64 rx, .int .i64 cx, .slice sa n ka], .float .f64 s] w fun e w' => (∃ X0 X1 X2 X3 X4, e = .returned (.tuple #[.agg #[.int .i64 X0, .int .i64 X1, .slice X2 X3 X4], .int .i64 (sclT rx cx n xs s)]) ∧ ResM (sclT rx cx n xs s) rx.toNat cx.toNat (sclV xs s cx.toNat) w' X0 X1 X2 X3 X4) ∧ Below w.heap.size w w' := by
  unfold sclT
  by_cases h : withE (chkM rx cx n xs) s = 0
  · rw [if_pos h]
    obtain ⟨h1, h2⟩ := with_zero h
    obtain ⟨r, c, rfl, rfl, hga⟩ := gd_of ha h1
    refine (Scale_good r c n s sa ka _ w hga hs (fin_of h2)).mono ?_
    rintro e w' ⟨⟨g, o, rfl, hf, hv⟩, hbb⟩
    obtain ⟨X0, X1, X2, X3, X4, e1, e2⟩ := res_of r c g o (sclV xs s c) (if finV r c (sclV xs s c) = true then 0 else 5) w' rfl hf (fun i j hi hj => by
      have hl := gd_fin hga _ (place_lt hi hj)
      obtain ⟨z, hz, _, hzc⟩ := fin_some ok_m w (xs.getD (i * c + j) 0) s hl.1 hs hl.2 (fin_of h2)
      have := hv i j hi hj
      rw [show FloatKind.f64.format.mul (xs.getD (i * c + j) 0) s = some z from hz] at this
      rw [← Option.some.inj this]
      exact hzc)
    exact ⟨⟨X0, X1, X2, X3, X4, by rw [e1]; rfl, e2⟩, hbb⟩
  · rw [if_neg h]
    have key : Calls Try.prog 52 #[.agg #[.int .i64 rx, .int .i64 cx, .slice sa n ka], .float .f64 s] w fun e w' => e = .returned (NonM (withE (chkM rx cx n xs) s)) ∧ Below w.heap.size w w' := by
      by_cases h1 : chkM rx cx n xs = 0
      · have h2 : finB s = false := by
          cases hb : finB s
          · rfl
          · exact absurd (by unfold withE; rw [if_neg (fun q => q h1), if_pos hb]) h
        rw [show withE (chkM rx cx n xs) s = 4 from by unfold withE; rw [if_neg (fun q => q h1), h2]; rfl]
        exact Scale_num rx cx n s sa ka xs w ha hn h1 hs h2
      · rw [show withE (chkM rx cx n xs) s = chkM rx cx n xs from by unfold withE; rw [if_pos h1]]
        exact Scale_bad rx cx n s sa ka xs w ha hn h1
    refine key.mono ?_
    rintro e w' ⟨rfl, hbb⟩
    obtain ⟨X0, X1, X2, X3, X4, e1, e2⟩ := res_non rx.toNat cx.toNat (sclV xs s cx.toNat) _ w' h
    exact ⟨⟨X0, X1, X2, X3, X4, by rw [e1], e2⟩, hbb⟩
theorem rScale_tot (rx cx : Int) (sa : Option Addr) (n ka : Nat) (xs : List Nat) (s : Nat) (w : World) (ha : FlM w sa n ka xs) (hs : s < 18446744073709551616) (h : withE (chkM rx cx n xs) s = 0) :
    Calls Try.prog 51 #[.agg #[.int .i64 rx, .int .i64 cx, .slice sa n ka], .float .f64 s] w fun e w' => (∃ X0 X1 X2 X3 X4, e = .returned (.tuple #[.agg #[.int .i64 X0, .int .i64 X1, .slice X2 X3 X4], .int .i64 (sclT rx cx n xs s)]) ∧ ResM (sclT rx cx n xs s) rx.toNat cx.toNat (sclV xs s cx.toNat) w' X0 X1 X2 X3 X4) ∧ Below w.heap.size w w' := by
  unfold sclT
  rw [if_pos h]
  obtain ⟨h1, h2⟩ := with_zero h
  obtain ⟨r, c, rfl, rfl, hga⟩ := gd_of ha h1
  refine (rScale_ok r c n s sa ka _ w hga hs (fin_of h2)).mono ?_
  rintro e w' ⟨⟨g, o, rfl, hf, hv⟩, hbb⟩
  obtain ⟨X0, X1, X2, X3, X4, e1, e2⟩ := res_of r c g o (sclV xs s c) (if finV r c (sclV xs s c) = true then 0 else 5) w' rfl hf hv
  exact ⟨⟨X0, X1, X2, X3, X4, by rw [e1]; rfl, e2⟩, hbb⟩
end Go.Proofs.Ythnblidkbcficaa
