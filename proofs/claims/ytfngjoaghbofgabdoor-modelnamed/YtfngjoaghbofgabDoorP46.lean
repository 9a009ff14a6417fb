
/- Variances; CheckSensor: model's, and the document's. -/
import Derived.Test.YtfngjoaghbofgabDoorP45
namespace Go.Proofs.YtfngjoaghbofgabDoor
open Go.RowKit Go.IntWalk

/-- May a variance not be so? -/
def varB (x : Nat) : Bool := (FloatKind.f64.format.order x 3706462493325918208 == some .lt) || (FloatKind.f64.format.order x 5507902344274116608 == some .gt)
def varsB (ys : List Nat) : Bool := ys.any varB
theorem var_iff (x : Nat) : varB x = true ↔ (FloatKind.f64.format.order x 3706462493325918208 = some .lt ∨ FloatKind.f64.format.order x 5507902344274116608 = some .gt) := by
  unfold varB
  simp
theorem vars_yes {ys : List Nat} {n k : Nat} (hl : ys.length = n) (hk : k < n) (h : varB (ys.getD k 0) = true) : varsB ys = true := by
  unfold varsB
  rw [List.any_eq_true]
  refine ⟨ys.getD k 0, ?_, h⟩
  rw [List.getD_eq_getElem?_getD, List.getElem?_eq_getElem (by omega)]
  exact List.getElem_mem _
theorem vars_no {ys : List Nat} {n : Nat} (hl : ys.length = n) (h : ∀ k, k < n → varB (ys.getD k 0) = false) : varsB ys = false := by
  unfold varsB
  rw [List.any_eq_false]
  intro x hx
  obtain ⟨i, hi, rfl⟩ := List.getElem_of_mem hx
  have := h i (by omega)
  rw [List.getD_eq_getElem?_getD, List.getElem?_eq_getElem hi] at this
  rw [show ys[i] = (some ys[i]).getD 0 from rfl, this]
  decide
set_option maxHeartbeats 1000000 in
theorem areVar_some (b off n cap : Nat) (ys : List Nat) (w : World) (hl : ys.length = n) (hn : n ≤ 17592186043904) (hc : ∀ j, j < n → w.cell? ⟨b, off + j, none⟩ = some (.float .f64 (ys.getD j 0))) : Calls Tryd.prog 55 #[.slice (some ⟨b, off, none⟩) n cap] w fun r w' => r = .returned (.bool (!varsB ys)) ∧ w' = w := by
  have HC := hid hc
  have HL := hid hl
  clear hc hl
  go_enter Tryd.func55, Tryd.ntmps55
  go_wp2_with fail
  go_loopw [7] (fun iv wr => ∃ k : Nat, k ≤ n ∧ iv = .int .i64 k ∧ Hid (∀ j, j < k → varB (ys.getD j 0) = false) ∧ wr = w) (fun iv _ => n - (intOf iv).toNat)
  case atStart => exact ⟨0, Nat.zero_le _, rfl, fun j hj => absurd hj (Nat.not_lt_zero _), rfl⟩
  case round =>
    obtain ⟨k, hk, rfl, HV, rfl⟩ := hrel
    by_cases hlt : k < n
    · have hck := HC.out k hlt
      have HX := hid (@vars_yes ys n k HL.out hlt)
      have HVX := hid (var_iff (ys.getD k 0))
      have hkI : (k : Int) < (n : Int) := by omega
      have hk0 : (0 : Int) ≤ (k : Int) := by omega
      have HST : Hid (varB (ys.getD k 0) = false → ∀ j, j < k + 1 → varB (ys.getD j 0) = false) := fun h j hj => by
        by_cases e : j = k
        · subst e; exact h
        · exact HV.out j (by omega)
      obtain ⟨x, hx⟩ : ∃ t, ys.getD k 0 = t := ⟨_, rfl⟩
      rw [hx] at hck HX HVX HST
      by_cases h1 : FloatKind.f64.format.order x 3706462493325918208 = some .lt
      · have HR := hid (HX.out (HVX.out.2 (Or.inl h1)))
        go_wp2_with fail
        go_ret
        exact ⟨by rw [HR.out]; rfl, rfl⟩
      by_cases h2 : FloatKind.f64.format.order x 5507902344274116608 = some .gt
      · have HR := hid (HX.out (HVX.out.2 (Or.inr h2)))
        go_wp2_with fail
        go_ret
        exact ⟨by rw [HR.out]; rfl, rfl⟩
      have HS2 := hid (HST.out (by
        cases hv : varB x with
        | false => rfl
        | true => exact absurd (HVX.out.1 hv) (fun h => h.elim h1 h2)))
      have h3 : (FloatKind.f64.format.order x 3706462493325918208 == some .lt) = false := by simpa using h1
      have h4 : (FloatKind.f64.format.order x 5507902344274116608 == some .gt) = false := by simpa using h2
      go_wp2_with fail
      go_roundw
      case rel => exact ⟨k + 1, by omega, by go_num, HS2, by first | rfl | trivial⟩
      case measure => simp [intOf]; omega
    · obtain rfl : k = n := by omega
      have HR := hid (vars_no HL.out HV.out)
      go_wp2_with fail
      go_ret
      exact ⟨by rw [HR.out]; rfl, rfl⟩
set_option maxHeartbeats 1000000 in
theorem areVar_nil (w : World) : Calls Tryd.prog 55 #[.slice none 0 0] w fun r w' => r = .returned (.bool true) ∧ w' = w := by
  go_enter Tryd.func55, Tryd.ntmps55
  go_wp2_with fail
  go_loopw [7] (fun iv wr => iv = .int .i64 0 ∧ wr = w) (fun _ _ => 0)
  case atStart => exact ⟨rfl, rfl⟩
  case round =>
    obtain ⟨rfl, rfl⟩ := hrel
    go_wp2_with fail
    go_ret
    exact ⟨rfl, rfl⟩
theorem areVar_any (sa : Option Addr) (n cap : Nat) (ys : List Nat) (w : World) (h : FlM w sa n cap ys) (hn : n ≤ 17592186043904) : Calls Tryd.prog 55 #[.slice sa n cap] w fun r w' => r = .returned (.bool (!varsB ys)) ∧ w' = w := by
  obtain ⟨rfl, h2, ⟨rfl, h3, rfl⟩ | ⟨b, off, rfl, h4, _, _, h7⟩⟩ := h
  · have hx : ys = [] := List.length_eq_zero_iff.1 h3
    subst hx
    exact areVar_nil w
  · exact areVar_some b off _ cap ys w rfl hn h7
theorem var_pos (x : Nat) (hx : x < 18446744073709551616) (hf : (expOf x == 2047) = false) (h : FloatKind.f64.format.order x 0 ≠ some .gt) : FloatKind.f64.format.order x 3706462493325918208 = some .lt := by
  have hn : ¬ 9218868437227405312 < x % 9223372036854775808 := fun h => by
    unfold expOf canonOf at hf
    rw [if_pos h] at hf
    exact absurd hf (by decide)
  rw [order_eq x 0 hx (by decide) (by omega) (by decide)] at h
  rw [order_eq x 3706462493325918208 hx (by decide) (by omega) (by decide)]
  congr 1
  have e0 : sv 0 = 0 := sv_zero
  have e1 : sv 3706462493325918208 = (nv 3706462493325918208 : Int) := svq_mag _ (by decide)
  have e2 : nv 0 < nv 3706462493325918208 := nv_lt (by decide)
  have e3 : (0 : Int) < sv 3706462493325918208 := by rw [e1]; omega
  rw [e0] at h
  have h4 : ¬ 0 < sv x := fun h5 => h (by congr 1; exact cmp_gt h5)
  exact cmp_lt (by omega)
theorem twoW_a : twoW 823 = 3706462493325918208 := by decide
theorem twoW_b : twoW 1223 = 5507902344274116608 := by decide
theorem fl_ltq {W : World} {sa : Option Addr} {n cap k : Nat} {ys : List Nat} (h : FlM W sa n cap ys) (hk : k < n) : ys.getD k 0 < 18446744073709551616 := by
  have hl := h.1
  refine h.2.1 _ ?_
  rw [List.getD_eq_getElem?_getD, List.getElem?_eq_getElem (by omega)]
  exact List.getElem_mem _
theorem fin_at {ys : List Nat} {n k : Nat} (hl : ys.length = n) (hf : finM ys = true) (hk : k < n) : (expOf (ys.getD k 0) == 2047) = false := by
  unfold finM at hf
  rw [List.all_eq_true] at hf
  have := hf (ys.getD k 0) (by rw [List.getD_eq_getElem?_getD, List.getElem?_eq_getElem (by omega)]; exact List.getElem_mem _)
  simpa using this
def snE (id r c : Int) (n : Nat) (xs : List Nat) (m : Nat) (ys : List Nat) (g : Nat) (dim : Int) : Int := if id < 0 ∨ 64 ≤ id then 1 else if chkM r c n xs ≠ 0 then chkM r c n xs else if r < 1 ∨ 6 < r then 1 else if c ≠ dim ∨ (m : Int) ≠ r then 3 else if finM ys = false ∨ (expOf g == 2047) = true then 4 else if varsB ys = true ∨ FloatKind.f64.format.order g 0 = some .lt then 141 else 0
theorem fin_one (g : Nat) : finM [g] = !(expOf g == 2047) := by
  unfold finM
  simp
theorem fl_one {W : World} {b x : Nat} (h : W.heap[b]? = some (.cells #[.float .f64 x] 37)) (hx : x < 18446744073709551616) : FlM W (some ⟨b, 0, none⟩) 1 1 [x] := by
  refine ⟨rfl, fun z hz => ?_, Or.inr ⟨b, 0, rfl, (Array.getElem?_eq_some_iff.1 h).1, Nat.le_refl _, by decide, fun j hj => ?_⟩⟩
  · simp at hz
    subst hz
    exact hx
  · match j, hj with
    | 0, _ => simp [World.cell?, h]
set_option maxRecDepth 4000 in
set_option maxHeartbeats 4000000 in
theorem CheckSn_any (id r c : Int) (sa : Option Addr) (n ka : Nat) (sr : Option Addr) (m kr g : Nat) (xs ys : List Nat) (dim : Int) (w : World) (hx : FlM w sa n ka xs) (hy : FlM w sr m kr ys) (hn : n ≤ 17592186043904) (hm : m ≤ 17592186043904) (hg : g < 18446744073709551616) : Calls Tryd.prog 33 #[SnV id r c sa n ka sr m kr g, .int .i64 dim] w fun e w' => e = .returned (.int .i64 (snE id r c n xs m ys g dim)) ∧ Below w.heap.size w w' := by
  have HB0 : Hid (Below w.heap.size w (w.alloc (SnBox id r c sa n ka sr m kr g)) ∧ (w.alloc (SnBox id r c sa n ka sr m kr g)).heap[w.heap.size]? = some (SnBox id r c sa n ka sr m kr g)) := ⟨(Below.refl _ _).alloc (Nat.le_refl _) _, nblkM _ _⟩
  have HMC := hid (fun W (hW : Below w.heap.size w W) => Check_any r c sa n ka xs W (hx.below hW) hn)
  have HFR := hid (fun W (hW : Below w.heap.size w W) => FinM_any sr m kr ys W (hy.below hW) hm)
  have HGT := hid (fun W (b : Nat) (h : W.heap[b]? = some (.cells #[.float .f64 g] 37)) => FinM_any (some ⟨b, 0, none⟩) 1 1 [g] W (fl_one h hg) (by decide))
  rw [fin_one] at HGT
  have HVA := hid (fun W (hW : Below w.heap.size w W) => areVar_any sr m kr ys W (hy.below hW) hm)
  have HE : Hid (∀ E, snE id r c n xs m ys g dim = E → Ending.returned (.int .i64 E) = .returned (.int .i64 (snE id r c n xs m ys g dim))) := fun E h => by rw [h]
  have HE1 : Hid ((id < 0 ∨ 64 ≤ id) → snE id r c n xs m ys g dim = 1) := fun h => by unfold snE; rw [if_pos h]
  have HE2 : Hid (¬ (id < 0 ∨ 64 ≤ id) → chkM r c n xs ≠ 0 → snE id r c n xs m ys g dim = chkM r c n xs) := fun h1 h => by unfold snE; rw [if_neg h1, if_pos h]
  have HE3 : Hid (¬ (id < 0 ∨ 64 ≤ id) → chkM r c n xs = 0 → (r < 1 ∨ 6 < r) → snE id r c n xs m ys g dim = 1) := fun h1 h2 h => by unfold snE; rw [if_neg h1, if_neg (fun q => q h2), if_pos h]
  have HE4 : Hid (¬ (id < 0 ∨ 64 ≤ id) → chkM r c n xs = 0 → ¬ (r < 1 ∨ 6 < r) → (c ≠ dim ∨ (m : Int) ≠ r) → snE id r c n xs m ys g dim = 3) := fun h1 h2 h3 h => by unfold snE; rw [if_neg h1, if_neg (fun q => q h2), if_neg h3, if_pos h]
  have HE5 : Hid (¬ (id < 0 ∨ 64 ≤ id) → chkM r c n xs = 0 → ¬ (r < 1 ∨ 6 < r) → ¬ (c ≠ dim ∨ (m : Int) ≠ r) → (finM ys = false ∨ (expOf g == 2047) = true) → snE id r c n xs m ys g dim = 4) := fun h1 h2 h3 h4 h => by unfold snE; rw [if_neg h1, if_neg (fun q => q h2), if_neg h3, if_neg h4, if_pos h]
  have HE6 : Hid (¬ (id < 0 ∨ 64 ≤ id) → chkM r c n xs = 0 → ¬ (r < 1 ∨ 6 < r) → ¬ (c ≠ dim ∨ (m : Int) ≠ r) → ¬ (finM ys = false ∨ (expOf g == 2047) = true) → (varsB ys = true ∨ FloatKind.f64.format.order g 0 = some .lt) → snE id r c n xs m ys g dim = 141) := fun h1 h2 h3 h4 h5 h => by unfold snE; rw [if_neg h1, if_neg (fun q => q h2), if_neg h3, if_neg h4, if_neg h5, if_pos h]
  have HE7 : Hid (¬ (id < 0 ∨ 64 ≤ id) → chkM r c n xs = 0 → ¬ (r < 1 ∨ 6 < r) → ¬ (c ≠ dim ∨ (m : Int) ≠ r) → ¬ (finM ys = false ∨ (expOf g == 2047) = true) → ¬ (varsB ys = true ∨ FloatKind.f64.format.order g 0 = some .lt) → snE id r c n xs m ys g dim = 0) := fun h1 h2 h3 h4 h5 h => by unfold snE; rw [if_neg h1, if_neg (fun q => q h2), if_neg h3, if_neg h4, if_neg h5, if_neg h]
  obtain ⟨E, hE⟩ : ∃ t, chkM r c n xs = t := ⟨_, rfl⟩
  rw [hE] at HMC HE2 HE3 HE4 HE5 HE6 HE7
  obtain ⟨B, hB⟩ : ∃ t, finM ys = t := ⟨_, rfl⟩
  rw [hB] at HFR HE5 HE6 HE7
  obtain ⟨G, hG⟩ : ∃ t, (expOf g == 2047) = t := ⟨_, rfl⟩
  rw [hG] at HGT HE5 HE6 HE7
  obtain ⟨A, hA⟩ : ∃ t, varsB ys = t := ⟨_, rfl⟩
  rw [hA] at HVA HE6 HE7
  obtain ⟨V, hV⟩ : ∃ V, Hid (w.alloc (SnBox id r c sa n ka sr m kr g) = V) := ⟨_, rfl⟩
  rw [hV.out] at HB0
  have hV' := hV.out
  unfold SnBox at hV'
  have sn := sncells_of HB0.out.2
  unfold SnC at sn
  obtain ⟨s0, s1, s2, s3, s4, s5, s6, s7, s8⟩ := sn
  unfold SnV
  clear hx hy hn hm hg hE hB hG hA
  go_enter Tryd.func33, Tryd.ntmps33
  by_cases h1 : id < 0
  · have HX := hid (HE.out 1 (HE1.out (Or.inl h1)))
    go_wp2_with fail
    go_ret
    exact ⟨HX.out, HB0.out.1⟩
  by_cases h2 : 64 ≤ id
  · have HX := hid (HE.out 1 (HE1.out (Or.inr h2)))
    go_wp2_with fail
    go_ret
    exact ⟨HX.out, HB0.out.1⟩
  have HI : Hid (¬ (id < 0 ∨ 64 ≤ id)) := fun h => h.elim h1 h2
  go_wp2_with fail
  refine (HMC.out _ HB0.out.1).mono ?_
  rintro e w1 ⟨rfl, hb⟩
  have HB1 : Hid (Below w.heap.size w w1 ∧ w1.heap[w.heap.size]? = some (SnBox id r c sa n ka sr m kr g)) := ⟨HB0.out.1.trans (hb.mono HB0.out.1.size), blkM HB0.out.2 hb⟩
  have sn := sncells_of HB1.out.2
  unfold SnC at sn
  obtain ⟨s0, s1, s2, s3, s4, s5, s6, s7, s8⟩ := sn
  clear hb
  by_cases h3 : E = 0
  · subst h3
    by_cases h4 : r < 1
    · have HX := hid (HE.out 1 (HE3.out HI.out (by first | rfl | trivial) (Or.inl h4)))
      go_wp2_with fail
      go_ret
      exact ⟨HX.out, HB1.out.1⟩
    by_cases h5 : 6 < r
    · have HX := hid (HE.out 1 (HE3.out HI.out (by first | rfl | trivial) (Or.inr h5)))
      go_wp2_with fail
      go_ret
      exact ⟨HX.out, HB1.out.1⟩
    have HR : Hid (¬ (r < 1 ∨ 6 < r)) := fun h => h.elim h4 h5
    by_cases h6 : c = dim
    · have h6b : (c != dim) = false := by simpa using h6
      by_cases h7 : (m : Int) = r
      · have h7b : ((m : Int) != r) = false := by simpa using h7
        have HS : Hid (¬ (c ≠ dim ∨ (m : Int) ≠ r)) := fun h => h.elim (fun h => h h6) (fun h => h h7)
        have h6 := hid h6
        have h7 := hid h7
        go_wp2_with fail
        refine (HFR.out _ HB1.out.1).mono ?_
        rintro e w2 ⟨rfl, hb⟩
        have HB2 : Hid (Below w.heap.size w w2 ∧ w2.heap[w.heap.size]? = some (SnBox id r c sa n ka sr m kr g)) := ⟨HB1.out.1.trans (hb.mono HB1.out.1.size), blkM HB1.out.2 hb⟩
        have sn := sncells_of HB2.out.2
        unfold SnC at sn
        obtain ⟨s0, s1, s2, s3, s4, s5, s6, s7, s8⟩ := sn
        clear hb
        cases B with
        | false =>
          have HX := hid (HE.out 4 (HE5.out HI.out (by first | rfl | trivial) HR.out HS.out (by simp)))
          go_wp2_with fail
          go_ret
          exact ⟨HX.out, HB2.out.1⟩
        | true =>
          have HB3 : Hid (Below w.heap.size w (w2.alloc (.cells #[.float .f64 g] 37)) ∧ (w2.alloc (.cells #[.float .f64 g] 37)).heap[w.heap.size]? = some (SnBox id r c sa n ka sr m kr g)) := ⟨HB2.out.1.alloc HB2.out.1.size _, blkM HB2.out.2 ((Below.refl _ _).alloc (Nat.le_refl _) _)⟩
          have HL : Hid ((w2.alloc (.cells #[.float .f64 g] 37)).heap[w2.heap.size]? = some (.cells #[.float .f64 g] 37)) := nblkM _ _
          go_wp2_with fail
          refine (HGT.out _ _ HL.out).mono ?_
          rintro e w4 ⟨rfl, hb⟩
          have HB4 : Hid (Below w.heap.size w w4 ∧ w4.heap[w.heap.size]? = some (SnBox id r c sa n ka sr m kr g)) := ⟨HB3.out.1.trans (hb.mono HB3.out.1.size), blkM HB3.out.2 hb⟩
          have sn := sncells_of HB4.out.2
          unfold SnC at sn
          obtain ⟨s0, s1, s2, s3, s4, s5, s6, s7, s8⟩ := sn
          clear hb
          cases G with
          | true =>
            have HX := hid (HE.out 4 (HE5.out HI.out (by first | rfl | trivial) HR.out HS.out (by simp)))
            go_wp2_with fail
            go_ret
            exact ⟨HX.out, HB4.out.1⟩
          | false =>
            go_wp2_with fail
            refine (HVA.out _ HB4.out.1).mono ?_
            rintro e w5 ⟨rfl, hw⟩
            rw [hw]
            clear hw
            cases A with
            | true =>
              have HX := hid (HE.out 141 (HE6.out HI.out (by first | rfl | trivial) HR.out HS.out (by simp) (by simp)))
              go_wp2_with fail
              go_ret
              exact ⟨HX.out, HB4.out.1⟩
            | false =>
              by_cases h8 : FloatKind.f64.format.order g 0 = some .lt
              · have HX := hid (HE.out 141 (HE6.out HI.out (by first | rfl | trivial) HR.out HS.out (by simp) (Or.inr h8)))
                go_wp2_with fail
                go_ret
                exact ⟨HX.out, HB4.out.1⟩
              have h9 : (FloatKind.f64.format.order g 0 == some .lt) = false := by simpa using h8
              have HX := hid (HE.out 0 (HE7.out HI.out (by first | rfl | trivial) HR.out HS.out (by simp) (by simp [h8])))
              go_wp2_with fail
              go_ret
              exact ⟨HX.out, HB4.out.1⟩
      · have h7b : ((m : Int) != r) = true := by simpa using h7
        have HX := hid (HE.out 3 (HE4.out HI.out (by first | rfl | trivial) HR.out (Or.inr h7)))
        go_wp2_with fail
        go_ret
        exact ⟨HX.out, HB1.out.1⟩
    · have h6b : (c != dim) = true := by simpa using h6
      have HX := hid (HE.out 3 (HE4.out HI.out (by first | rfl | trivial) HR.out (Or.inl h6)))
      go_wp2_with fail
      go_ret
      exact ⟨HX.out, HB1.out.1⟩
  · have h3b : (E != 0) = true := by simpa using h3
    have HX := hid (HE.out E (HE2.out HI.out h3))
    go_wp2_with fail
    go_ret
    exact ⟨HX.out, HB1.out.1⟩
end Go.Proofs.YtfngjoaghbofgabDoor
