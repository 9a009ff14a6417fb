
/- Place: model's, and the document's. -/
import Derived.Test.YtfngjoaghbofgabDoorP41
namespace Go.Proofs.YtfngjoaghbofgabDoor
open Go.RowKit Go.IntWalk

/-- Is there such a number? -/
def PlOk (n : Nat) (K A : Nat → Int) (part axis order : Int) : Prop := 0 ≤ part ∧ part < (n : Int) ∧ 0 ≤ axis ∧ axis < A part.toNat ∧ 0 ≤ order ∧ order < szK (K part.toNat)
instance (n : Nat) (K A : Nat → Int) (part axis order : Int) : Decidable (PlOk n K A part axis order) := by unfold PlOk; infer_instance
def plE (n : Nat) (K A : Nat → Int) (N F : Nat → Nat) (part axis order : Int) : Int := if dmE n K A N F ≠ 0 then dmE n K A N F else if PlOk n K A part axis order then 0 else 1
def plV (n : Nat) (K A : Nat → Int) (N F : Nat → Nat) (part axis order : Int) : Int := if plE n K A N F part axis order = 0 then uS (ptS K A) part.toNat + axis * szK (K part.toNat) + order else 0
theorem pl_err {n : Nat} {K A : Nat → Int} {N F : Nat → Nat} {part axis order : Int} (h : dmE n K A N F ≠ 0) : plE n K A N F part axis order = dmE n K A N F ∧ plV n K A N F part axis order = 0 := by
  have e : plE n K A N F part axis order = dmE n K A N F := by unfold plE; rw [if_pos h]
  exact ⟨e, by unfold plV; rw [e, if_neg h]⟩
theorem pl_no {n : Nat} {K A : Nat → Int} {N F : Nat → Nat} {part axis order : Int} (h : dmE n K A N F = 0) (hp : ¬ PlOk n K A part axis order) : plE n K A N F part axis order = 1 ∧ plV n K A N F part axis order = 0 := by
  have e : plE n K A N F part axis order = 1 := by unfold plE; rw [if_neg (fun q => q h), if_neg hp]
  exact ⟨e, by unfold plV; rw [e, if_neg (by decide)]⟩
theorem pl_yes {n : Nat} {K A : Nat → Int} {N F : Nat → Nat} {part axis order : Int} (h : dmE n K A N F = 0) (hp : PlOk n K A part axis order) : plE n K A N F part axis order = 0 ∧ plV n K A N F part axis order = uS (ptS K A) part.toNat + axis * szK (K part.toNat) + order := by
  have e : plE n K A N F part axis order = 0 := by unfold plE; rw [if_neg (fun q => q h), if_pos hp]
  exact ⟨e, by unfold plV; rw [if_pos e]⟩
/-- Is it this axis? -/
def Mat7 (K : Nat → Int) (part axis order : Int) (e : Nat × Nat) : Prop := (e.1 : Int) = part ∧ (e.2 : Int) = axis ∧ 0 ≤ order ∧ order < szK (K e.1)
theorem mat_ok {n : Nat} {K A : Nat → Int} {part axis order : Int} {e : Nat × Nat} (he : e ∈ axP A n) (hm : Mat7 K part axis order e) : PlOk n K A part axis order ∧ part.toNat = e.1 ∧ axis = (e.2 : Int) := by
  obtain ⟨h1, h2⟩ := axP_mem.1 he
  obtain ⟨m1, m2, m3, m4⟩ := hm
  have hp : part.toNat = e.1 := by omega
  refine ⟨⟨by omega, by omega, by omega, ?_, m3, ?_⟩, hp, m2.symm⟩
  · rw [hp]; omega
  · rw [hp]; exact m4
theorem mat_no {n : Nat} {K A : Nat → Int} {part axis order : Int} (h : ∀ t (ht : t < (axP A n).length), ¬ Mat7 K part axis order (axP A n)[t]) : ¬ PlOk n K A part axis order := by
  rintro ⟨p1, p2, p3, p4, p5, p6⟩
  have hm : (part.toNat, axis.toNat) ∈ axP A n := axP_mem.2 ⟨by show part.toNat < n; omega, by show (axis.toNat : Int) < A part.toNat; omega⟩
  obtain ⟨t, ht, e⟩ := List.getElem_of_mem hm
  refine h t ht ?_
  rw [e]
  exact ⟨by show (part.toNat : Int) = part; omega, by show (axis.toNat : Int) = axis; omega, p5, p6⟩
def AxB (i j : Nat) (f z : Int) (p q g : Nat) : Obj := .cells #[.int .i64 (i : Int), .int .i64 (j : Int), .int .i64 f, .int .i64 z, .func (.func p) #[] #[], .func (.func q) #[] #[], .func (.func g) #[] #[]] 76
def AxD (W : World) (b o i j : Nat) (f z : Int) (p q g : Nat) : Prop := W.cell? ⟨b, o, none⟩ = some (.int .i64 (i : Int)) ∧ W.cell? ⟨b, o + 1, none⟩ = some (.int .i64 (j : Int)) ∧ W.cell? ⟨b, o + 2, none⟩ = some (.int .i64 f) ∧ W.cell? ⟨b, o + 3, none⟩ = some (.int .i64 z) ∧ W.cell? ⟨b, o + 4, none⟩ = some (.func (.func p) #[] #[]) ∧ W.cell? ⟨b, o + 5, none⟩ = some (.func (.func q) #[] #[]) ∧ W.cell? ⟨b, o + 6, none⟩ = some (.func (.func g) #[] #[])
theorem axb_cells {W : World} {b i j : Nat} {f z : Int} {p q g : Nat} (h : W.heap[b]? = some (AxB i j f z p q g)) : AxD W b 0 i j f z p q g := by
  unfold AxB at h
  refine ⟨?_, ?_, ?_, ?_, ?_, ?_, ?_⟩ <;> simp [World.cell?, h]
theorem ax_at {W : World} {base b cap : Nat} {K A : Nat → Int} {L : List (Nat × Nat)} (h : W.ownsRow base 76 7 (.slice (some ⟨b, 0, none⟩) L.length cap) L.length (L.flatMap (axC K A))) (t : Nat) (ht : t < L.length) : AxD W b (t * 7) L[t].1 L[t].2 (uS (ptS K A) L[t].1 + (L[t].2 : Int) * szK (K L[t].1)) (szK (K L[t].1)) (fnF (K L[t].1)) (fnQ (K L[t].1)) (fnG (K L[t].1)) := by
  have hc := h.cells (g := b) rfl
  have key : ∀ c u, c < 7 → (axC K A L[t])[c]? = some u → W.cell? ⟨b, t * 7 + c, none⟩ = some u := fun c u hc7 hu => by
    have := hc (t * 7 + c) u (by rw [axC_get K A L t c hc7 ht]; exact hu)
    rw [Go.WideShapes.add_plain, Nat.zero_add] at this
    exact this
  exact ⟨key 0 _ (by decide) rfl, key 1 _ (by decide) rfl, key 2 _ (by decide) rfl, key 3 _ (by decide) rfl, key 4 _ (by decide) rfl, key 5 _ (by decide) rfl, key 6 _ (by decide) rfl⟩
theorem AxD.below {W W' : World} {b o i j : Nat} {f z : Int} {p q g : Nat} (h : AxD W b o i j f z p q g) (hl : b < W.heap.size) (hb : Below W.heap.size W W') : AxD W' b o i j f z p q g := by
  unfold AxD
  rw [hb.cell (p := ⟨b, o, none⟩) hl, hb.cell (p := ⟨b, o + 1, none⟩) hl, hb.cell (p := ⟨b, o + 2, none⟩) hl, hb.cell (p := ⟨b, o + 3, none⟩) hl, hb.cell (p := ⟨b, o + 4, none⟩) hl, hb.cell (p := ⟨b, o + 5, none⟩) hl, hb.cell (p := ⟨b, o + 6, none⟩) hl]
  exact h
set_option maxRecDepth 4000 in
set_option maxHeartbeats 4000000 in
theorem Place_any (sa : Option Addr) (n cap : Nat) (K A : Nat → Int) (N F : Nat → Nat) (part axis order : Int) (w : World) (h : PtF w sa n K A N F) (hn : n ≤ 4398046511104) (ho : -9223372036854775808 ≤ order ∧ order ≤ 9223372036854775807) : Calls Tryd.prog 14 #[.agg #[.slice sa n cap], .int .i64 part, .int .i64 axis, .int .i64 order] w fun r w' => r = .returned (.tuple #[.int .i64 (plV n K A N F part axis order), .int .i64 (plE n K A N F part axis order)]) ∧ Below w.heap.size w w' := by
  have HB0 : Hid (Below w.heap.size w (w.alloc (MoBox sa n cap)) ∧ (w.alloc (MoBox sa n cap)).heap[w.heap.size]? = some (MoBox sa n cap)) := ⟨(Below.refl _ _).alloc (Nat.le_refl _) _, nblkM _ _⟩
  have HCK := hid (fun W (hW : Below w.heap.size w W) => Check_mo sa n cap K A N F W (h.below hW) hn)
  have HAX := hid (fun W (hW : Below w.heap.size w W) (hE : dmE n K A N F = 0) => axes_any sa n cap K A N F W (h.below hW) hn hE)
  obtain ⟨V, hV⟩ : ∃ V, Hid (w.alloc (MoBox sa n cap) = V) := ⟨_, rfl⟩
  rw [hV.out] at HB0
  have hV' := hV.out
  unfold MoBox at hV'
  have c0 := mocell_of HB0.out.2
  by_cases hE0 : dmE n K A N F = 0
  · have HDZ := hid (dm_zero hE0)
    have HAX2 := hid (fun W hW => HAX.out W hW hE0)
    have HNO := hid (fun hp => @pl_no n K A N F part axis order hE0 hp)
    have HYES := hid (fun hp => @pl_yes n K A N F part axis order hE0 hp)
    rw [hE0] at HCK
    clear hE0 h hn
    go_enter Tryd.func14, Tryd.ntmps14
    go_wp2_with fail
    refine (HCK.out _ HB0.out.1).mono ?_
    rintro e w1 ⟨rfl, hb⟩
    have HB1 : Hid (Below w.heap.size w w1 ∧ w1.heap[w.heap.size]? = some (MoBox sa n cap)) := ⟨HB0.out.1.trans (hb.mono HB0.out.1.size), blkM HB0.out.2 hb⟩
    have c0 := mocell_of HB1.out.2
    clear hb
    go_wp2_with fail
    refine (HAX2.out _ HB1.out.1).mono ?_
    rintro e w2 ⟨⟨v, rfl, hown⟩, hb⟩
    have HB2 := hid (HB1.out.1.trans (hb.mono HB1.out.1.size))
    have HLN : Hid ((axP A n).length ≤ 12) := by
      obtain ⟨_, y1, _, _, y4, _⟩ := HDZ.out
      have a := axP_len (K := K) (A := A) (N := N) (F := F) (n := n) (scE_all y1)
      have b := (y4 n (Nat.le_refl _)).1
      have c := (y4 n (Nat.le_refl _)).2.2
      show _ ≤ 12
      omega
    have HOW := hid hown
    have HMNO := hid (@mat_no n K A part axis order)
    have HMOK := hid (fun e he hm => @mat_ok n K A part axis order e he hm)
    clear hb hown
    obtain ⟨L, hL⟩ : ∃ t, axP A n = t := ⟨_, rfl⟩
    rw [hL] at HLN HOW HMNO HMOK
    clear c0 hL
    rcases Joins.ownsRow_forms HOW.out with ⟨rfl, h0⟩ | ⟨ax, acap, rfl⟩
    · obtain ⟨x1, x2⟩ := HNO.out (HMNO.out (fun t ht => absurd ht (by omega)))
      have HX := hid (ret_dm x2.symm x1.symm)
      clear x1 x2
      go_wp2_with fail
      go_loopw [21] (fun iv wr => iv = .int .i64 0 ∧ Hid (Below w.heap.size w wr)) (fun _ _ => 0)
      case atStart => exact ⟨rfl, HB2⟩
      case round =>
        obtain ⟨rfl, HBW⟩ := hrel
        go_wp2_with fail
        exact bodyPost_ret (v := .tuple #[.int .i64 0, .int .i64 1]) (by simp [results, Tryd.results14, go_sem]) rfl ⟨HX.out, HBW.out⟩
    · have HAL : Hid (ax < w2.heap.size) := (HOW.out.lt ax rfl).2
      have HAT := hid (fun t ht => ax_at HOW.out t ht)
      obtain ⟨T, hT⟩ : ∃ t, Hid (L.length = t) := ⟨_, rfl⟩
      rw [hT.out] at HLN
      rw [hT.out]
      go_wp2_with fail
      go_loopw [21] (fun iv wr => ∃ t : Nat, t ≤ T ∧ iv = .int .i64 t ∧ Hid (∀ s (hs : s < L.length), s < t → ¬ Mat7 K part axis order L[s]) ∧ Hid (Below w2.heap.size w2 wr)) (fun iv _ => T - (intOf iv).toNat)
      case atStart => exact ⟨0, Nat.zero_le _, rfl, fun s hs h => absurd h (Nat.not_lt_zero _), Below.refl _ _⟩
      case round =>
        obtain ⟨t, ht, rfl, HM, HBR⟩ := hrel
        have HBW := hid (HB2.out.trans (HBR.out.mono HB2.out.size))
        by_cases hlt : t < T
        · have hlt' : t < L.length := by rw [hT.out]; exact hlt
          have HD := hid ((HAT.out t hlt').below HAL.out HBR.out)
          have HMT := hid (fun (hm : Mat7 K part axis order L[t]) => HMOK.out L[t] (List.getElem_mem hlt') hm)
          have HM2 : Hid (¬ Mat7 K part axis order L[t] → ∀ s (hs : s < L.length), s < t + 1 → ¬ Mat7 K part axis order L[s]) := fun hm s hs hst => by
            by_cases e : s = t
            · subst e; exact hm
            · exact HM.out s hs (by omega)
          have HMD : Hid (Mat7 K part axis order L[t] ↔ ((L[t].1 : Int) = part ∧ (L[t].2 : Int) = axis ∧ 0 ≤ order ∧ order < szK (K L[t].1))) := Iff.rfl
          have HVAL : Hid (PlOk n K A part axis order ∧ part.toNat = L[t].1 ∧ axis = (L[t].2 : Int) → Ending.returned (.tuple #[.int .i64 (uS (ptS K A) L[t].1 + (L[t].2 : Int) * szK (K L[t].1) + order), .int .i64 0]) = .returned (.tuple #[.int .i64 (plV n K A N F part axis order), .int .i64 (plE n K A N F part axis order)])) := fun ⟨h1, h2, h3⟩ => by
            obtain ⟨x1, x2⟩ := HYES.out h1
            rw [x1, x2, h2, h3]
          have HFB : Hid (L[t].1 < n ∧ (L[t].2 : Int) < A L[t].1 → 0 ≤ uS (ptS K A) L[t].1 + (L[t].2 : Int) * szK (K L[t].1) ∧ uS (ptS K A) L[t].1 + (L[t].2 : Int) * szK (K L[t].1) + szK (K L[t].1) ≤ 12) := fun ⟨h1, h2⟩ => by
            obtain ⟨_, y1, _, _, y4, _⟩ := HDZ.out
            obtain ⟨_, _, _, z1, _⟩ := ptS_in (scE_all y1 _ h1)
            obtain ⟨a1, a2, a3⟩ := y4 L[t].1 (by omega)
            obtain ⟨b1, b2, b3⟩ := y4 (L[t].1 + 1) (by omega)
            have c1 : uS (ptS K A) (L[t].1 + 1) = uS (ptS K A) L[t].1 + A L[t].1 * szK (K L[t].1) := rfl
            have c2 : ((L[t].2 : Int) + 1) * szK (K L[t].1) ≤ A L[t].1 * szK (K L[t].1) := Int.mul_le_mul_of_nonneg_right (by omega) (by omega)
            have c3 : 0 ≤ (L[t].2 : Int) * szK (K L[t].1) := Int.mul_nonneg (by omega) (by omega)
            rw [Int.add_mul, Int.one_mul] at c2
            omega
          have HPM : Hid (PlOk n K A part axis order ∧ part.toNat = L[t].1 ∧ axis = (L[t].2 : Int) → L[t].1 < n ∧ (L[t].2 : Int) < A L[t].1) := fun ⟨⟨_, p2, _, p4, _, _⟩, h2, h3⟩ => by
            rw [h2] at p4
            exact ⟨by omega, by omega⟩
          have hkI : (t : Int) < (T : Int) := by omega
          have hk0 : (0 : Int) ≤ (t : Int) := by omega
          have hT12 := HLN.out
          obtain ⟨e, he⟩ : ∃ q, L[t] = q := ⟨_, rfl⟩
          rw [he] at HD HMT HM2 HMD HVAL HFB HPM
          obtain ⟨f, hf⟩ : ∃ q, uS (ptS K A) e.1 + (e.2 : Int) * szK (K e.1) = q := ⟨_, rfl⟩
          rw [hf] at HD HVAL HFB
          obtain ⟨z, hz⟩ : ∃ q, szK (K e.1) = q := ⟨_, rfl⟩
          rw [hz] at HD HMD HFB
          obtain ⟨g1, hg1⟩ : ∃ q, fnF (K e.1) = q := ⟨_, rfl⟩
          obtain ⟨g2, hg2⟩ : ∃ q, fnQ (K e.1) = q := ⟨_, rfl⟩
          obtain ⟨g3, hg3⟩ : ∃ q, fnG (K e.1) = q := ⟨_, rfl⟩
          rw [hg1, hg2, hg3] at HD
          obtain ⟨i, hi⟩ : ∃ q, e.1 = q := ⟨_, rfl⟩
          obtain ⟨j, hj⟩ : ∃ q, e.2 = q := ⟨_, rfl⟩
          rw [hi, hj] at HD HMD
          have hd := HD.out
          unfold AxD at hd
          obtain ⟨d0, d1, d2, d3, d4, d5, d6⟩ := hd
          have HB3 : Hid (Below w2.heap.size w2 (wr.alloc (AxB i j f z g1 g2 g3)) ∧ (wr.alloc (AxB i j f z g1 g2 g3)).heap[wr.heap.size]? = some (AxB i j f z g1 g2 g3)) := ⟨HBR.out.alloc HBR.out.size _, nblkM _ _⟩
          obtain ⟨V3, hV3⟩ : ∃ V, Hid (wr.alloc (AxB i j f z g1 g2 g3) = V) := ⟨_, rfl⟩
          rw [hV3.out] at HB3
          have hV3' := hV3.out
          unfold AxB at hV3'
          have hb3 := axb_cells HB3.out.2
          unfold AxD at hb3
          simp only [Nat.zero_add] at hb3
          obtain ⟨b0, b1, b2, b3, b4, b5, b6⟩ := hb3
          have HB3W := hid (HB2.out.trans (HB3.out.1.mono HB2.out.size))
          clear hf hz hg1 hg2 hg3 hi hj
          by_cases m1 : (i : Int) = part
          · subst m1
            by_cases m2 : (j : Int) = axis
            · subst m2
              by_cases m3 : 0 ≤ order
              · by_cases m4 : order < z
                · have HOK := hid (HMT.out (HMD.out.2 ⟨rfl, rfl, m3, m4⟩))
                  have HV2 := hid (HVAL.out HOK.out)
                  have hfb := HFB.out (HPM.out HOK.out)
                  have w1 : wrap64 (f + order) = f + order := wrap64_in _ (by omega)
                  go_wp2_with fail
                  exact bodyPost_ret (v := .tuple #[.int .i64 (f + order), .int .i64 0]) (by simp [results, Tryd.results14, go_sem]) rfl ⟨HV2.out, HB3W.out⟩
                · have HN2 := hid (HM2.out (fun hm => m4 (HMD.out.1 hm).2.2.2))
                  go_wp2_with fail
                  go_roundw
                  case rel => exact ⟨t + 1, by omega, by go_num, HN2, HB3.out.1⟩
                  case measure => simp [intOf]; omega
              · have HN2 := hid (HM2.out (fun hm => m3 (HMD.out.1 hm).2.2.1))
                go_wp2_with fail
                go_roundw
                case rel => exact ⟨t + 1, by omega, by go_num, HN2, HB3.out.1⟩
                case measure => simp [intOf]; omega
            · have HN2 := hid (HM2.out (fun hm => m2 (HMD.out.1 hm).2.1))
              have m2b : ((j : Int) == axis) = false := by simpa using m2
              go_wp2_with fail
              go_roundw
              case rel => exact ⟨t + 1, by omega, by go_num, HN2, HB3.out.1⟩
              case measure => simp [intOf]; omega
          · have HN2 := hid (HM2.out (fun hm => m1 (HMD.out.1 hm).1))
            have m1b : ((i : Int) == part) = false := by simpa using m1
            go_wp2_with fail
            go_roundw
            case rel => exact ⟨t + 1, by omega, by go_num, HN2, HB3.out.1⟩
            case measure => simp [intOf]; omega
        · obtain rfl : t = T := by omega
          obtain ⟨x1, x2⟩ := HNO.out (HMNO.out (fun s hs => HM.out s hs (by rw [← hT.out]; exact hs)))
          have HX := hid (ret_dm x2.symm x1.symm)
          clear x1 x2
          go_wp2_with fail
          exact bodyPost_ret (v := .tuple #[.int .i64 0, .int .i64 1]) (by simp [results, Tryd.results14, go_sem]) rfl ⟨HX.out, HBW.out⟩
  · obtain ⟨x1, x2⟩ := @pl_err n K A N F part axis order hE0
    rw [x1, x2]
    obtain ⟨E, hE⟩ : ∃ t, dmE n K A N F = t := ⟨_, rfl⟩
    rw [hE] at HCK hE0
    rw [hE]
    have hne : (E != 0) = true := by simpa using hE0
    clear h hn x1 x2 hE hE0
    go_enter Tryd.func14, Tryd.ntmps14
    go_wp2_with fail
    refine (HCK.out _ HB0.out.1).mono ?_
    rintro e w1 ⟨rfl, hb⟩
    have HB1 := hid (HB0.out.1.trans (hb.mono HB0.out.1.size))
    clear hb
    go_wp2_with fail
    exact bodyPost_ret (v := .tuple #[.int .i64 0, .int .i64 E]) (by simp [results, Tryd.results14, go_sem]) rfl ⟨rfl, HB1.out⟩
end Go.Proofs.YtfngjoaghbofgabDoor
