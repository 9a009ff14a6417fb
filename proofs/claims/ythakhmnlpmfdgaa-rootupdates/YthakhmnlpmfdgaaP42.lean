
/- The document's Triangle of a good matrix. -/
import Derived.Test.YthakhmnlpmfdgaaP41
import Derived.Test.YthakhmnlpmfdgaaP26
namespace Go.Proofs.Ythakhmnlpmfdgaa
open Go.RowKit Go.IntWalk

theorem fin_exp_iff {x : Nat} (_ : x < 18446744073709551616) : x % 9223372036854775808 < 9218868437227405312 ↔ (expOf x == 2047) = false := by
  constructor
  · intro h
    cases he : (expOf x == 2047) with
    | false => rfl
    | true =>
      have h1 := fin_sgl x
      unfold finM at h1
      simp only [List.all_cons, List.all_nil, Bool.and_true] at h1
      rw [he] at h1
      unfold finB at h1
      have h2 := decide_eq_true h
      rw [h2] at h1
      cases h1
  · intro h
    exact (fin_exp2 (Z := x) (by assumption) h).2
set_option maxRecDepth 4000 in
set_option maxHeartbeats 2000000 in
theorem tri_ok (c n : Nat) (sa : Option Addr) (ka : Nat) (f : Nat → Nat) (w : World) (ha : Gd w c c sa n ka f) :
    Calls Try.prog 57 #[.agg #[.int .i64 c, .int .i64 c, .slice sa n ka]] w fun e w' => e = .returned (.int .i64 (if (lowB c f && diagB c f) = true then 0 else 93)) ∧ Below w.heap.size w w' := by
  have hcc : ((c : Int) != (c : Int)) = false := by simp
  have HCK := hid (fun W (hW : Below w.heap.size w W) => good3_any c c sa n ka _ W ((ha.below hW).2.2.2.1.fl) (by have := ha.le; omega))
  rw [ha.chk] at HCK
  have l1 := ha.1
  have HAT : Hid (∀ W i j, Below w.heap.size w W → i < c → j < c → Calls Try.prog 82 #[.agg #[.int .i64 c, .int .i64 c, .slice sa n ka], .int .i64 (i : Nat), .int .i64 (j : Nat)] W fun e w' => e = .returned (.float .f64 (f (i * c + j))) ∧ Below W.heap.size W w') := fun W i j hW hi hj => r9At_fn c sa c n ka i j f W (ha.below hW).2.2.2.1 (by omega) (by omega) (by omega) (by rw [ha.2.2.1]; exact place_lt hi hj)
  have HB0 : Hid (Below w.heap.size w (w.alloc (MBox c c sa n ka))) := (Below.refl _ _).alloc (Nat.le_refl _) _
  have HX0 : Hid ((w.alloc (MBox c c sa n ka)).heap[w.heap.size]? = some (MBox c c sa n ka)) := nblkM _ _
  obtain ⟨V, hV⟩ : ∃ V, Hid (w.alloc (MBox c c sa n ka) = V) := ⟨_, rfl⟩
  rw [hV.out] at HB0 HX0
  have hV' := hV.out
  unfold MBox at hV'
  obtain ⟨p0, hp0⟩ : ∃ t, Hid (w.heap.size = t) := ⟨_, rfl⟩
  rw [hp0.out] at HX0
  have hp0' := hp0.out
  obtain ⟨x0, x1, x2⟩ := mcells_of HX0.out
  have HL := hid l1
  obtain ⟨D, hD⟩ : ∃ D, Hid ((if (lowB c f && diagB c f) = true then (0 : Int) else 93) = D) := ⟨_, rfl⟩
  rw [hD.out]
  have HGT : Hid (∀ i, i < c → (FloatKind.f64.format.order (f (i * c + i)) 0 == some .gt) = !leB (f (i * c + i))) := fun i hi => by
    have h1 := gd_fin ha (i * c + i) (place_lt hi hi)
    exact ord_pos h1.1 ((fin_exp_iff h1.1).1 h1.2)
  have HSM : Hid (∀ i j W, i < c → j < c → Calls Try.prog 83 #[.float .f64 (f (i * c + j)), .float .f64 0] W fun e w' => e = .returned (.bool (canonOf (f (i * c + j)) == 0)) ∧ w' = W) := fun i j W hi hj => rsameM_any _ 0 W (gd_fin ha (i * c + j) (place_lt hi hj)).1 (by decide)
  clear ha
  go_enter Try.func57, Try.ntmps57
  go_wp2_with fail
  refine (HCK.out _ HB0.out).mono ?_
  rintro e w1 ⟨rfl, hb1⟩
  have HB1 := hid (HB0.out.trans (hb1.mono HB0.out.size))
  have HX1 := hid (blkM HX0.out hb1)
  obtain ⟨x0, x1, x2⟩ := mcells_of HX1.out
  clear hb1
  go_wp2_with fail
  go_loopw [4] (fun iv wr => ∃ i : Nat, i ≤ c ∧ iv = .int .i64 i ∧ Hid ((∀ a b, a < i → b < c → a < b → canonOf (f (a * c + b)) = 0) ∧ ∀ a, a < i → leB (f (a * c + a)) = false) ∧ Hid (Below w.heap.size w wr) ∧ Hid (wr.heap[p0]? = some (MBox c c sa n ka))) (fun iv _ => c - (intOf iv).toNat)
  case atStart => exact ⟨0, Nat.zero_le _, rfl, ⟨fun a b h => absurd h (Nat.not_lt_zero a), fun a h => absurd h (Nat.not_lt_zero a)⟩, HB1, HX1⟩
  case round =>
    obtain ⟨i, hi, rfl, HP, HBW, HXW⟩ := hrel
    obtain ⟨x0, x1, x2⟩ := mcells_of HXW.out
    have l2 := HL.out
    by_cases hlt : i < c
    · have hiI : (i : Int) < (c : Int) := by omega
      have HI := hid hlt
      clear hlt
      have HP := hid HP.out
      go_wp2_with fail
      refine (HAT.out _ i i HBW.out HI.out HI.out).mono ?_
      rintro e w1 ⟨rfl, hb1⟩
      have HBW := hid (HBW.out.trans (hb1.mono HBW.out.size))
      have HXW := hid (blkM HXW.out hb1)
      obtain ⟨x0, x1, x2⟩ := mcells_of HXW.out
      have hgt := HGT.out i HI.out
      clear hb1
      obtain ⟨LE, hLE⟩ : ∃ t, Hid (leB (f (i * c + i)) = t) := ⟨_, rfl⟩
      obtain ⟨y0, hy0⟩ : ∃ t, Hid (f (i * c + i) = t) := ⟨_, rfl⟩
      rw [hLE.out, hy0.out] at hgt
      rw [hy0.out]
      cases LE with
      | true =>
        have hgt : (FloatKind.f64.format.order y0 0 == some .gt) = false := hgt
        go_wp2_with fail
        have HT : Hid (diagB c f = false) := by
          show _ = _
          cases hd : diagB c f with
          | false => rfl
          | true => have h5 := (diag_iff c f).1 hd i HI.out; rw [hLE.out] at h5; exact absurd h5 (by decide)
        go_ret
        exact ⟨by have h1 := hD.out; rw [HT.out, Bool.and_false] at h1; subst h1; rfl, by first | exact HBW.out | (rw [← hp0.out]; exact HBW.out)⟩
      | false =>
      have hgt : (FloatKind.f64.format.order y0 0 == some .gt) = true := hgt
      go_wp2_with fail
      go_loopw [5] (fun jv wr2 => ∃ j : Nat, (i + 1) ≤ j ∧ j ≤ c ∧ jv = .int .i64 j ∧ Hid (∀ a b, (a < i ∨ (a = i ∧ b < j)) → b < c → a < b → canonOf (f (a * c + b)) = 0) ∧ Hid (Below w.heap.size w wr2) ∧ Hid (wr2.heap[p0]? = some (MBox c c sa n ka))) (fun jv _ => c - (intOf jv).toNat)
      case atStart => exact ⟨(i + 1), Nat.le_refl _, by have := HI.out; omega, by go_num, fun a b hab hb h => HP.out.1 a b (by rcases hab with h1 | ⟨h1, h2⟩ <;> omega) hb h, HBW, HXW⟩
      case round =>
        obtain ⟨j, hj0, hj, rfl, HP2, HBW2, HXW2⟩ := hrel
        obtain ⟨x0, x1, x2⟩ := mcells_of HXW2.out
        by_cases hl2 : j < c
        · have hjI : (j : Int) < (c : Int) := by omega
          have HJ := hid hl2
          have HJ0 := hid hj0
          clear hl2
          have HIJ : Hid (i < j) := by have := HJ0.out; show _ < _; omega
          go_wp2_with fail
          refine (HAT.out _ i j HBW2.out HI.out HJ.out).mono ?_
          rintro e w1 ⟨rfl, hb1⟩
          have HB1 := hid (HBW2.out.trans (hb1.mono HBW2.out.size))
          have HX1 := hid (blkM HXW2.out hb1)
          obtain ⟨x0, x1, x2⟩ := mcells_of HX1.out
          have HS1 := hid (HSM.out i j w1 HI.out HJ.out)
          by_cases hz : canonOf (f (i * c + j)) = 0
          · have HZZ := hid hz
            rw [hz] at HS1
            obtain ⟨y, hy⟩ : ∃ t, Hid (f (i * c + j) = t) := ⟨_, rfl⟩
            rw [hy.out] at HS1 ⊢
            clear hb1 hz
            go_wp2_with fail
            refine HS1.out.mono ?_
            rintro e ww ⟨rfl, rfl⟩
            go_wp2_with fail
            have hj1 := HJ.out
            refine ⟨⟨j + 1, by omega, by omega, by go_num, fun a b hab hb h => ?_, HB1, HX1⟩, ?_⟩
            · by_cases hbj : a = i ∧ b = j
              · obtain ⟨ea, eb⟩ := hbj
                subst ea eb
                exact HZZ.out
              · exact HP2.out a b (by rcases hab with h1 | ⟨h1, h2⟩ <;> omega) hb h
            · simp [intOf]; omega
          · have HZZ := hid hz
            have hzb : (canonOf (f (i * c + j)) == 0) = false := by simpa using hz
            rw [hzb] at HS1
            obtain ⟨y, hy⟩ : ∃ t, Hid (f (i * c + j) = t) := ⟨_, rfl⟩
            rw [hy.out] at HS1 ⊢
            clear hb1 hz hzb
            go_wp2_with fail
            refine HS1.out.mono ?_
            rintro e ww ⟨rfl, rfl⟩
            go_wp2_with fail
            have HT : Hid (lowB c f = false) := low_no HI.out HJ.out HIJ.out HZZ.out
            go_ret
            exact ⟨by have h1 := hD.out; rw [HT.out, Bool.false_and] at h1; subst h1; rfl, by first | exact HB1.out | (rw [← hp0.out]; exact HB1.out)⟩
        · obtain rfl : j = c := by omega
          go_wp2_with fail
          have hi1 := HI.out
          refine ⟨⟨i + 1, by omega, by go_num, ⟨fun a b ha hb h => HP2.out a b (by omega) hb h, fun a ha => ?_⟩, HBW2, HXW2⟩, ?_⟩
          · by_cases he : a = i
            · subst he; exact hLE.out
            · exact HP.out.2 a (by omega)
          simp [intOf]; omega
    · obtain rfl : i = c := by omega
      have HT : Hid (lowB i f = true) := (low_iff i f).2 (fun a b ha hb h => HP.out.1 a b ha hb h)
      go_wp2_with fail
      go_ret
      have HT2 : Hid (diagB i f = true) := (diag_iff i f).2 (fun a ha => HP.out.2 a ha)
      exact ⟨by have h1 := hD.out; rw [HT.out, HT2.out] at h1; subst h1; rfl, by first | exact HBW.out | (rw [← hp0.out]; exact HBW.out)⟩
end Go.Proofs.Ythakhmnlpmfdgaa

namespace Go.Proofs.Ythakhmnlpmfdgaa
open Go.RowKit Go.IntWalk

theorem rootE_chk {zs : List Nat} {k : Nat} {r c : Int} {n : Nat} {xs : List Nat} (h : chkM r c n xs ≠ 0) : rootE zs k r c n xs = chkM r c n xs := by
  have t : tallE r c n xs (k : Int) = chkM r c n xs := by unfold tallE; rw [if_neg h]
  have h1 : sqrE r c n xs (k : Int) = chkM r c n xs := by unfold sqrE; rw [t, if_neg h]
  unfold rootE
  rw [h1, if_neg h]
theorem rootE_shape {zs : List Nat} {k : Nat} {r c : Int} {n : Nat} {xs : List Nat} (h : chkM r c n xs = 0) (hs : ¬ (r = (k : Int) ∧ c = (k : Int))) : rootE zs k r c n xs = 3 := by
  have h1 : sqrE r c n xs (k : Int) = 3 := by
    unfold sqrE
    by_cases h2 : r = (k : Int)
    · have t : tallE r c n xs (k : Int) = 0 := by unfold tallE; rw [if_pos h, if_pos h2]
      rw [if_pos t, if_neg fun e => hs ⟨h2, e⟩]
    · have t : tallE r c n xs (k : Int) = 3 := by unfold tallE; rw [if_pos h, if_neg h2]
      rw [t, if_neg (by decide)]
  unfold rootE
  rw [h1, if_neg (by decide)]
theorem rootE_good {zs : List Nat} {k n : Nat} {xs : List Nat} (h : chkM (k : Int) (k : Int) n xs = 0) : rootE zs k (k : Int) (k : Int) n xs = if finM zs = true then (if (lowB k (fun j => xs.getD j 0) && diagB k (fun j => xs.getD j 0)) = true then 0 else 93) else 4 := by
  have t : tallE (k : Int) (k : Int) n xs (k : Int) = 0 := by unfold tallE; rw [if_pos h, if_pos rfl]
  have h1 : sqrE (k : Int) (k : Int) n xs (k : Int) = 0 := by unfold sqrE; rw [if_pos t, if_pos rfl]
  have h2 : lowT (k : Int) (k : Int) n xs = lowB k (fun j => xs.getD j 0) := by
    unfold lowT sqE
    rw [h, if_pos rfl]
    simp [first2]
  unfold rootE
  rw [if_pos h1, h2, Int.toNat_natCast]
  cases finM zs <;> cases lowB k (fun j => xs.getD j 0) <;> cases diagB k (fun j => xs.getD j 0) <;> rfl
set_option maxRecDepth 8000 in
set_option maxHeartbeats 4000000 in
theorem rCheck16_any (xa : Option Addr) (k kx : Nat) (zs : List Nat) (r c : Int) (sa : Option Addr) (m ka : Nat) (xs : List Nat) (w : World) (hX : FlM w xa k kx zs) (hk : k ≤ 17592186043904) (hA : FlM w sa m ka xs) (hm : m ≤ 17592186043904) :
    Calls Try.prog 25 #[.agg #[.slice xa k kx, .int .i64 r, .int .i64 c, .slice sa m ka]] w fun e w' => e = .returned (.int .i64 (rootE zs k r c m xs)) ∧ Below w.heap.size w w' := by
  have HC := hid (fun W (hW : Below w.heap.size w W) => rCheck_any r c sa m ka xs W (hA.below hW) hm)
  have HF := hid (fun W (hW : Below w.heap.size w W) => rall_any xa k kx zs W (hX.below hW) hk)
  have HA := hid hA
  obtain ⟨E, hE⟩ : ∃ t, Hid (rootE zs k r c m xs = t) := ⟨_, rfl⟩
  rw [hE.out]
  have H0 : Hid ((w.alloc (RBox xa k kx r c sa m ka)).heap[w.heap.size]? = some (RBox xa k kx r c sa m ka)) := nblkM _ _
  have HB : Hid (Below w.heap.size w (w.alloc (RBox xa k kx r c sa m ka))) := (Below.refl _ _).alloc (Nat.le_refl _) _
  obtain ⟨V, hV⟩ : ∃ t, Hid (w.alloc (RBox xa k kx r c sa m ka) = t) := ⟨_, rfl⟩
  rw [hV.out] at H0 HB
  have hV' := hV.out
  unfold RBox at hV'
  obtain ⟨p0, hp0⟩ : ∃ t, Hid (w.heap.size = t) := ⟨_, rfl⟩
  have e0 := hp0.out
  rw [hp0.out] at H0
  obtain ⟨x0, x1, x2, x3⟩ := rcells_of H0.out
  clear hX hk hA hm
  by_cases hc : chkM r c m xs = 0
  · have HCZ := hid hc
    rw [hc] at HC
    by_cases hs : r = (k : Int) ∧ c = (k : Int)
    · obtain ⟨rfl, rfl⟩ := hs
      have HEE := hid (hE.out ▸ rootE_good (zs := zs) hc)
      have HTR := hid (fun W (hW : Below w.heap.size w W) => tri_ok k m sa ka _ W (gd_own_r (HA.out.below hW) hc))
      obtain ⟨T, hT⟩ : ∃ t, Hid ((if (lowB k (fun j => xs.getD j 0) && diagB k (fun j => xs.getD j 0)) = true then (0 : Int) else 93) = t) := ⟨_, rfl⟩
      rw [hT.out] at HTR
      have HEE : Hid (E = if finM zs = true then T else 4) := by show _ = _; rw [← hT.out]; exact HEE.out
      obtain ⟨F, hF⟩ : ∃ t, Hid (finM zs = t) := ⟨_, rfl⟩
      rw [hF.out] at HF HEE
      have h1 : (((k : Int) != (k : Int)) = false) := by simp
      clear hc
      go_enter Try.func25, Try.ntmps25
      go_wp2_with fail
      refine (HC.out V HB.out).mono ?_
      rintro e w1 ⟨rfl, hb1⟩
      have HB1 := hid (HB.out.trans (hb1.mono HB.out.size))
      have H1 : Hid (w1.heap[p0]? = some (RBox xa k kx k k sa m ka)) := blkM H0.out hb1
      obtain ⟨x0, x1, x2, x3⟩ := rcells_of H1.out
      clear hb1
      go_wp2_with fail
      refine (HF.out w1 HB1.out).mono ?_
      rintro e ww ⟨rfl, rfl⟩
      cases F with
      | false =>
        go_wp2_with fail
        go_ret
        exact ⟨by rw [HEE.out]; rfl, HB1.out⟩
      | true =>
        go_wp2_with fail
        refine (HTR.out _ HB1.out).mono ?_
        rintro e w2 ⟨rfl, hb2⟩
        have HB2 := hid (HB1.out.trans (hb2.mono HB1.out.size))
        clear hb2
        go_wp2_with fail
        go_ret
        exact ⟨by rw [HEE.out]; rfl, HB2.out⟩
    · obtain rfl : E = 3 := by rw [← hE.out]; exact rootE_shape hc hs
      by_cases h2 : r = c
      · subst h2
        have h1 : ((r != r) = false) := by simp
        have h3 : (((k : Int) != r) = true) := by simp; intro e; exact hs ⟨e.symm, e.symm⟩
        clear hc hs
        go_enter Try.func25, Try.ntmps25
        go_wp2_with fail
        refine (HC.out V HB.out).mono ?_
        rintro e w1 ⟨rfl, hb1⟩
        have HB1 := hid (HB.out.trans (hb1.mono HB.out.size))
        obtain ⟨x0, x1, x2, x3⟩ := rcells_of (blkM H0.out hb1)
        clear hb1
        go_wp2_with fail
        go_ret
        exact ⟨rfl, HB1.out⟩
      · have h1 : ((r != c) = true) := by simpa using h2
        clear hc hs
        go_enter Try.func25, Try.ntmps25
        go_wp2_with fail
        refine (HC.out V HB.out).mono ?_
        rintro e w1 ⟨rfl, hb1⟩
        have HB1 := hid (HB.out.trans (hb1.mono HB.out.size))
        obtain ⟨x0, x1, x2, x3⟩ := rcells_of (blkM H0.out hb1)
        clear hb1
        go_wp2_with fail
        go_ret
        exact ⟨rfl, HB1.out⟩
  · have hEE : E = chkM r c m xs := by rw [← hE.out]; exact rootE_chk hc
    rw [← hEE] at HC hc
    have hne : (E != 0) = true := by simpa using hc
    clear hEE hc
    go_enter Try.func25, Try.ntmps25
    go_wp2_with fail
    refine (HC.out V HB.out).mono ?_
    rintro e w1 ⟨rfl, hb1⟩
    have HB1 := hid (HB.out.trans (hb1.mono HB.out.size))
    clear hb1
    go_wp2_with fail
    go_ret
    exact ⟨rfl, HB1.out⟩
end Go.Proofs.Ythakhmnlpmfdgaa

namespace Go.Proofs.Ythakhmnlpmfdgaa
open Go.RowKit Go.IntWalk

/-- A variable of steps. -/
def SBx (o : Bool) : Obj := .cells #[.bool o] 72
theorem sbx_of {w : World} {b : Nat} {o : Bool} (h : w.heap[b]? = some (SBx o)) : w.cell? ⟨b, 0, none⟩ = some (.bool o) ∧ w.frozen? ⟨b, 0, none⟩ = false := by
  unfold SBx at h
  refine ⟨?_, ?_⟩
  · simp [World.cell?, h]
  · simp [World.frozen?, h]
theorem sbx_set {w : World} {b : Nat} {o p : Bool} (h : w.heap[b]? = some (SBx o)) : (w.setCell ⟨b, 0, none⟩ (.bool p)).heap[b]? = some (SBx p) := by
  unfold SBx at h ⊢
  simp [World.setCell, Array.getElem?_modify, h]
set_option maxRecDepth 4000 in
set_option maxHeartbeats 2000000 in
theorem stepS (b : Nat) (o : Bool) (x : Nat) (w : World) (hx : x < 18446744073709551616) (h : w.heap[b]? = some (SBx o)) :
    Calls Try.prog 35 #[.pointer (some ⟨b, 0, none⟩), .float .f64 x] w fun e w' => e = .returned (.float .f64 x) ∧ w' = w.setCell ⟨b, 0, none⟩ (.bool (o || expOf x == 2047)) := by
  have HFI := hid (fun W => rfinite_any x W hx)
  obtain ⟨X, hX⟩ : ∃ t, Hid ((expOf x == 2047) = t) := ⟨_, rfl⟩
  rw [hX.out] at HFI ⊢
  obtain ⟨c0, fz⟩ := sbx_of h
  clear hx h
  go_enter Try.func35, Try.ntmps35
  cases o with
  | true =>
    go_wp2_with fail
    go_ret
    exact ⟨rfl, rfl⟩
  | false =>
    go_wp2_with fail
    refine (HFI.out _).mono ?_
    rintro e ww ⟨rfl, rfl⟩
    cases X with
    | true =>
      go_wp2_with fail
      go_ret
      exact ⟨rfl, rfl⟩
    | false =>
      go_wp2_with fail
      go_ret
      exact ⟨rfl, rfl⟩
end Go.Proofs.Ythakhmnlpmfdgaa

namespace Go.Proofs.Ythakhmnlpmfdgaa
open Go.RowKit Go.IntWalk

def NfD : Ieee.Datum → Prop
  | .number _ _ _ => False
  | _ => True
theorem sum_nf {a b d : Ieee.Datum} (h : NfD a ∨ NfD b) (hd : a.sum b = some d) : ∃ s, d = .infinity s := by
  cases a <;> cases b <;> simp [Ieee.Datum.sum, NfD] at h hd
  all_goals first
    | exact ⟨_, hd.2.symm⟩
    | exact ⟨_, hd.symm⟩
theorem product_nf {a b d : Ieee.Datum} (h : NfD a ∨ NfD b) (hd : a.product b = some d) : ∃ s, d = .infinity s := by
  cases a <;> cases b <;> simp [Ieee.Datum.product, NfD] at h hd
  all_goals first
    | exact ⟨_, hd.2.symm⟩
    | exact ⟨_, hd.symm⟩
theorem opp_nf {a : Ieee.Datum} (h : NfD a) : NfD a.opposite := by
  cases a <;> first | exact h | trivial
theorem quo_nf {a b d : Ieee.Datum} {k : Nat} (h : NfD a) (hd : a.quotient k b = some d) : ∃ s, d = .infinity s := by
  cases a <;> cases b <;> simp [Ieee.Datum.quotient, NfD] at h hd
  all_goals exact ⟨_, hd.symm⟩
theorem nf_read {x : Nat} (hx : x < 18446744073709551616) (h : finB x = false) : NfD (FloatKind.f64.format.read x) := by
  unfold finB at h
  have h1 := of_decide_eq_false h
  rcases Nat.lt_or_ge 9218868437227405312 (x % 9223372036854775808) with c | c
  · obtain ⟨s, t, e⟩ := read_nan x c
    rw [e]
    trivial
  · rw [read_inf x hx (by omega)]
    trivial
theorem nf_inf (s : Bool) : finB (canonOf (FloatKind.f64.format.write (.infinity s))) = false := by cases s <;> decide +kernel
theorem nf_get {o : Option Ieee.Datum} (h : ∀ d, o = some d → ∃ s, d = .infinity s) : finB (((o.map FloatKind.f64.format.write).map canonOf).getD 9221120237041090561) = false := by
  cases o with
  | none => decide
  | some d =>
    obtain ⟨s, rfl⟩ := h d rfl
    exact nf_inf s
theorem nf_add {x y : Nat} (hx : x < 18446744073709551616) (hy : y < 18446744073709551616) (h : finB (caf .add x y) = true) : finB x = true ∧ finB y = true := by
  have key : NfD (FloatKind.f64.format.read x) ∨ NfD (FloatKind.f64.format.read y) → finB (caf .add x y) = false := fun h => nf_get (o := (FloatKind.f64.format.read x).sum (FloatKind.f64.format.read y)) fun d hd => sum_nf h hd
  constructor
  · by_cases c : finB x = true
    · exact c
    · rw [key (Or.inl (nf_read hx (eq_false_of_ne_true c)))] at h; cases h
  · by_cases c : finB y = true
    · exact c
    · rw [key (Or.inr (nf_read hy (eq_false_of_ne_true c)))] at h; cases h
theorem nf_sub {x y : Nat} (hx : x < 18446744073709551616) (hy : y < 18446744073709551616) (h : finB (caf .sub x y) = true) : finB x = true ∧ finB y = true := by
  have key : NfD (FloatKind.f64.format.read x) ∨ NfD (FloatKind.f64.format.read y) → finB (caf .sub x y) = false := fun h => nf_get (o := (FloatKind.f64.format.read x).sum (FloatKind.f64.format.read y).opposite) fun d hd => sum_nf (h.imp id opp_nf) hd
  constructor
  · by_cases c : finB x = true
    · exact c
    · rw [key (Or.inl (nf_read hx (eq_false_of_ne_true c)))] at h; cases h
  · by_cases c : finB y = true
    · exact c
    · rw [key (Or.inr (nf_read hy (eq_false_of_ne_true c)))] at h; cases h
theorem nf_mul {x y : Nat} (hx : x < 18446744073709551616) (hy : y < 18446744073709551616) (h : finB (caf .mul x y) = true) : finB x = true ∧ finB y = true := by
  have key : NfD (FloatKind.f64.format.read x) ∨ NfD (FloatKind.f64.format.read y) → finB (caf .mul x y) = false := fun h => nf_get (o := (FloatKind.f64.format.read x).product (FloatKind.f64.format.read y)) fun d hd => product_nf h hd
  constructor
  · by_cases c : finB x = true
    · exact c
    · rw [key (Or.inl (nf_read hx (eq_false_of_ne_true c)))] at h; cases h
  · by_cases c : finB y = true
    · exact c
    · rw [key (Or.inr (nf_read hy (eq_false_of_ne_true c)))] at h; cases h
theorem nf_quo {x y : Nat} (hx : x < 18446744073709551616) (h : finB (caf .quo x y) = true) : finB x = true := by
  by_cases c : finB x = true
  · exact c
  · have key : finB (caf .quo x y) = false := nf_get (o := (FloatKind.f64.format.read x).quotient (FloatKind.f64.format.fractionBits + 2) (FloatKind.f64.format.read y)) fun d hd => quo_nf (nf_read hx (eq_false_of_ne_true c)) hd
    rw [key] at h; cases h
theorem root_sq (n : Nat) : ∀ todo root, root * root ≤ n → Ieee.Datum.rootFrom n todo root * Ieee.Datum.rootFrom n todo root ≤ n := by
  intro todo
  induction todo with
  | zero => intro root h; exact h
  | succ t ih =>
    intro root h
    unfold Ieee.Datum.rootFrom
    refine ih _ ?_
    split
    · assumption
    · exact h
theorem top_root : rndM 72057594037927931 456 ≤ 6913025428013711359 := by decide +kernel
theorem top_square : rndM (nv 6913025428013711359 * nv 6913025428013711359) (-2148) ≤ 9218868437227405311 := by decide +kernel
theorem pow_step {A : Nat} (k K L : Nat) (hL : L = K + 1) (h : k ≤ K) (hA : A ≤ 72057594037927936) : A * 2 ^ k ≤ 72057594037927931 * 2 ^ L := by
  subst hL
  have a1 : 2 ^ k ≤ 2 ^ K := Nat.pow_le_pow_right (by decide) h
  rw [Nat.pow_succ]
  obtain ⟨Q, hQ⟩ : ∃ t, (2 : Nat) ^ K = t := ⟨_, rfl⟩
  rw [hQ] at a1 ⊢
  have a3 : A * 2 ^ k ≤ 72057594037927936 * Q := Nat.mul_le_mul hA a1
  omega
/-- The root of a finite number that isn't below 0 is at most the greatest one below 2^512. -/
theorem sqrt_top (x : Nat) (hx : x < 9218868437227405312) : ∃ r, FloatKind.f64.format.sqrt x = some r ∧ r ≤ 6913025428013711359 := by
  obtain ⟨m, p, ex, hm, hp⟩ := read_fin2 x (by omega) (by omega)
  have hdec : decide (9223372036854775808 ≤ x) = false := decide_eq_false (by omega)
  rw [hdec] at ex
  by_cases hm0 : m = 0
  · refine ⟨0, ?_, by decide⟩
    unfold Ieee.Format.sqrt
    rw [ex]
    simp only [Ieee.Datum.root]
    rw [if_pos hm0, hm0]
    show some (FloatKind.f64.format.nearest _ 0 _) = _
    rw [(near_rnd _ _ _).1]
    unfold rndM
    rw [if_pos rfl]
    rfl
  · obtain ⟨more, hmore⟩ : ∃ t : Nat, 2 * 54 - m.log2 + (((p : Int) - 1074 - ((2 * 54 - m.log2 : Nat) : Int)) % 2).toNat = t := ⟨_, rfl⟩
    obtain ⟨W, hW⟩ : ∃ t, Ieee.Datum.rootFrom (m * 2 ^ more) ((m * 2 ^ more).log2 / 2 + 1) 0 = t := ⟨_, rfl⟩
    have key : FloatKind.f64.format.sqrt x = some (rndM (2 * W + (W * W != m * 2 ^ more).toNat) (((p : Int) - 1074 - (more : Int)) / 2 - 1)) := by
      unfold Ieee.Format.sqrt
      rw [ex]
      simp only [Ieee.Datum.root]
      rw [if_neg hm0, fmt_fb]
      simp only [Bool.false_eq_true, if_false]
      show some (FloatKind.f64.format.nearest _ _ _) = _
      rw [(near_rnd _ _ _).1]
      rw [← hW, ← hmore, Nat.shiftLeft_eq]
      rfl
    have e63 : x % 9223372036854775808 = x := Nat.mod_eq_of_lt (by omega)
    rw [e63] at hp
    have hp2 : p ≤ 2045 := by rcases hp with ⟨h, _⟩ | ⟨_, h, h2⟩ <;> omega
    have hlog : m.log2 < 53 := (Nat.log2_lt hm0).2 (by omega)
    have hmr : more ≤ 109 := by
      have : (((p : Int) - 1074 - ((2 * 54 - m.log2 : Nat) : Int)) % 2).toNat ≤ 1 := by omega
      omega
    have hmr2 : 56 ≤ more := by omega
    have hmr3 : m.log2 + 1 + more ≤ 110 := by
      have : (((p : Int) - 1074 - ((2 * 54 - m.log2 : Nat) : Int)) % 2).toNat ≤ 1 := by omega
      omega
    have hev : ((p : Int) - 1074 - (more : Int)) % 2 = 0 := by omega
    have hsq : W * W ≤ m * 2 ^ more := by
      have h1 := root_sq (m * 2 ^ more) ((m * 2 ^ more).log2 / 2 + 1) 0 (by omega)
      rw [hW] at h1
      exact h1
    have hs : (W * W != m * 2 ^ more).toNat ≤ 1 := by cases (W * W != m * 2 ^ more) <;> decide
    obtain ⟨s, hse⟩ : ∃ t, (W * W != m * 2 ^ more).toNat = t := ⟨_, rfl⟩
    rw [hse] at key hs
    have hW55 : W < 36028797018963968 := by
      rcases Nat.lt_or_ge W 36028797018963968 with c | c
      · exact c
      · exfalso
        have h1 : 36028797018963968 * 36028797018963968 ≤ W * W := Nat.mul_le_mul c c
        have h2 : m * 2 ^ more < 2 ^ (m.log2 + 1) * 2 ^ more := Nat.mul_lt_mul_of_pos_right Nat.lt_log2_self (Nat.two_pow_pos _)
        have h3 : 2 ^ (m.log2 + 1) * 2 ^ more ≤ 2 ^ 110 := by
          rw [← Nat.pow_add]
          exact Nat.pow_le_pow_right (by decide) hmr3
        have h4 : (36028797018963968 : Nat) * 36028797018963968 = 2 ^ 110 := by decide
        omega
    obtain ⟨h, hh⟩ : ∃ t : Int, ((p : Int) - 1074 - (more : Int)) / 2 = t := ⟨_, rfl⟩
    rw [hh] at key
    have hup : h ≤ 457 := by omega
    have hlo : -592 ≤ h := by omega
    refine ⟨_, key, Nat.le_trans ?_ top_root⟩
    refine rnd_riseC 2148 (by decide) (by omega) (by decide) (by decide) ?_
    obtain ⟨E, hE⟩ : ∃ t : Nat, ((456 : Int) + ((2148 : Nat) : Int)).toNat = t := ⟨_, rfl⟩
    have t2 : E = 2604 := by rw [← hE]; decide
    rw [hE]
    rcases Int.lt_or_le h 457 with c | c
    · obtain ⟨k, hk⟩ : ∃ t : Nat, (h - 1 + ((2148 : Nat) : Int)).toNat = t := ⟨_, rfl⟩
      rw [hk]
      have hk2 : k ≤ 2603 := by omega
      exact pow_step k 2603 E t2 hk2 (by omega)
    · have e457 : (h - 1 + ((2148 : Nat) : Int)).toNat = E := by omega
      rw [e457]
      refine Nat.mul_le_mul_right _ ?_
      have hW3 : W < 36028797018963966 := by
        rcases Nat.lt_or_ge W 36028797018963966 with c | c
        · exact c
        · exfalso
          have h1 : 36028797018963966 * 36028797018963966 ≤ W * W := Nat.mul_le_mul c c
          have h2 : m * 2 ^ more ≤ 9007199254740991 * 2 ^ 57 := Nat.mul_le_mul (by omega) (Nat.pow_le_pow_right (by decide) (by omega))
          have h4 : (9007199254740991 : Nat) * 2 ^ 57 < 36028797018963966 * 36028797018963966 := by decide
          omega
      omega
/-- A product of two such roots is finite. -/
theorem mul_top {x y : Nat} (hx : x ≤ 6913025428013711359) (hy : y ≤ 6913025428013711359) : finB (caf .mul x y) = true := by
  have ex : x % 9223372036854775808 = x := Nat.mod_eq_of_lt (by omega)
  have ey : y % 9223372036854775808 = y := Nat.mod_eq_of_lt (by omega)
  have h := mul_rndS x y (by omega) (by omega) (by omega) (by omega)
  rw [ex, ey] at h
  have hr := Nat.le_trans (rnd_rise (m1 := nv x * nv y) (-2148) (by decide) (Nat.mul_le_mul (nv_le hx) (nv_le hy))) top_square
  obtain ⟨R, hR⟩ : ∃ t, rndM (nv x * nv y) (-2148) = t := ⟨_, rfl⟩
  rw [hR] at h hr
  have h2 : floatBits .mul .f64 x y = some (signN (decide (9223372036854775808 ≤ x) ^^ decide (9223372036854775808 ≤ y)) R) := h
  unfold caf
  rw [h2]
  have hs : decide (9223372036854775808 ≤ x) = false := decide_eq_false (by omega)
  have hs2 : decide (9223372036854775808 ≤ y) = false := decide_eq_false (by omega)
  simp only [Option.map_some, Option.getD_some]
  rw [finB_canon]
  unfold finB signN
  simp [hs, hs2]
  omega
end Go.Proofs.Ythakhmnlpmfdgaa
