
/- The document's sum in order and the sums of all beginnings. -/
import Derived.Test.YtehnkgonhgjeiaaGreatDoorP43
import Derived.Test.YtehnkgonhgjeiaaGreatDoorP25
namespace Go.Proofs.YtehnkgonhgjeiaaGreatDoor
open Go.RowKit Go.IntWalk

theorem Owns.kept {w w' : World} {base : Nat} {v : Value} {xs : List Nat} (h : Owns w base v xs) (hb : Below w.heap.size w w') : Owns w' base v xs := by
  obtain ⟨h1, h2 | ⟨g, cap, cur, e1, e2, e3, e4⟩⟩ := h
  · exact ⟨h1, .inl h2⟩
  · exact ⟨h1, .inr ⟨g, cap, cur, e1, e2, (hb.block g (Array.getElem?_eq_some_iff.1 e3).1).trans e3, e4⟩⟩
set_option maxHeartbeats 400000 in
theorem rcanonS_any (x : Nat) (w : World) (hx : x < 18446744073709551616) :
    Calls Tryz.prog 57 #[.float .f64 x] w fun e w' => e = .returned (.float .f64 (canonOf x)) ∧ w' = w := by
  have h2 := f64from
  go_enter Tryz.func57, Tryz.ntmps57
  go_wp2_with fail
  refine (bits_any x _ hx).mono ?_
  rintro e w' ⟨rfl, rfl⟩
  go_wp2_with fail
  go_ret
  exact ⟨rfl, rfl⟩
theorem mem_get (xs : List Nat) (k : Nat) (h : k < xs.length) : xs.getD k 0 ∈ xs := by
  rw [List.getD_eq_getElem?_getD, List.getElem?_eq_getElem h]
  exact List.getElem_mem _
theorem get_take (xs : List Nat) (k j : Nat) (h : j < k) : (xs.take k).getD j 0 = xs.getD j 0 := by
  rw [List.getD_eq_getElem?_getD, List.getD_eq_getElem?_getD, List.getElem?_take, if_pos h]
set_option maxHeartbeats 2000000 in
theorem rLeft_some (b off cap : Nat) (xs : List Nat) (hx : ∀ x ∈ xs, x < 18446744073709551616) (hreach : xs.length ≤ 17592186043904) (w : World) (hb : b < w.heap.size) (hc : ∀ j, j < xs.length → w.cell? ⟨b, off + j, none⟩ = some (.float .f64 (xs.getD j 0))) :
    Calls Tryz.prog 14 #[.slice (some ⟨b, off, none⟩) xs.length cap] w fun e W' => e = .returned (.float .f64 (sumC xs)) ∧ Below w.heap.size w W' := by
  have r1 := ar_run .add ok_a
  have HX := hid hx
  have HC := hid hc
  have HCE := hid (List.take_length (l := xs))
  clear hx hc
  obtain ⟨N, hN⟩ : ∃ N, Hid (xs.length = N) := ⟨_, rfl⟩
  rw [hN.out] at hreach HC HCE ⊢
  go_enter Tryz.func14, Tryz.ntmps14
  go_wp2_with fail
  go_loopw [3, 8] (fun s i wr => ∃ k s0 : Nat, k ≤ N ∧ s = .float .f64 s0 ∧ i = .int .i64 k ∧ Hid (s0 < 18446744073709551616 ∧ canonOf s0 = sumC (xs.take k)) ∧ Hid (Below w.heap.size w wr)) (fun _ i _ => N - (intOf i).toNat)
  case atStart => exact ⟨0, 0, Nat.zero_le _, rfl, rfl, ⟨by decide, by rw [List.take_zero, sumC_nil]; decide⟩, Below.refl _ _⟩
  case round =>
    obtain ⟨k, s0, hk, rfl, rfl, HS, HB⟩ := hrel
    by_cases hlt : k < N
    · have hck : wr.cell? ⟨b, off + k, none⟩ = some (.float .f64 (xs.getD k 0)) := (HB.out.cell (p := ⟨b, off + k, none⟩) hb).trans (HC.out k hlt)
      have HT : Hid (xs.take (k + 1) = xs.take k ++ [xs.getD k 0]) := take_next xs k (by rw [hN.out]; exact hlt)
      have HXK : Hid (xs.getD k 0 < 18446744073709551616) := HX.out _ (mem_get xs k (by rw [hN.out]; exact hlt))
      obtain ⟨x, hx⟩ : ∃ x, Hid (xs.getD k 0 = x) := ⟨_, rfl⟩
      rw [hx.out] at hck HT HXK
      have hkI : (k : Int) < (N : Int) := by omega
      have hk0 : (0 : Int) ≤ (k : Int) := by omega
      have HSN : Hid (arF .add s0 x wr < 18446744073709551616 ∧ canonOf (arF .add s0 x wr) = sumC (xs.take (k + 1))) := ⟨arF_lt ok_a _ _ _, by rw [canon_ar ok_a _ _ _ HS.out.1 HXK.out, HS.out.2, ← sumC_snoc, ← HT.out]⟩
      have HBN : Hid (Below w.heap.size w (arG .add s0 x wr)) := bl_ar HB.out _ _ _
      go_wp2
      refine ⟨⟨k + 1, _, by omega, rfl, by go_num, HSN, HBN⟩, ?_⟩
      simp [intOf]; omega
    · obtain rfl : k = N := by omega
      rw [HCE.out] at HS
      have HR := hid (fun (V : World) => rcanonS_any s0 V HS.out.1)
      rw [HS.out.2] at HR
      go_wp2_with fail
      refine (HR.out _).mono ?_
      rintro r w1 ⟨rfl, rfl⟩
      go_wp2
      go_ret
      exact ⟨rfl, HB.out⟩
set_option maxHeartbeats 1000000 in
theorem rLeft_nil (w : World) : Calls Tryz.prog 14 #[.slice none 0 0] w fun e W' => e = .returned (.float .f64 0) ∧ Below w.heap.size w W' := by
  have HR := hid (fun (V : World) => rcanonS_any 0 V (by decide))
  rw [show canonOf 0 = 0 by decide] at HR
  go_enter Tryz.func14, Tryz.ntmps14
  go_wp2_with fail
  go_loopw [3, 8] (fun s i wr => s = .float .f64 0 ∧ i = .int .i64 0 ∧ wr = w) (fun _ _ _ => 0)
  case atStart => exact ⟨rfl, rfl, rfl⟩
  case round =>
    obtain ⟨rfl, rfl, rfl⟩ := hrel
    go_wp2_with fail
    refine (HR.out _).mono ?_
    rintro r w1 ⟨rfl, rfl⟩
    go_wp2
    go_ret
    exact ⟨rfl, Below.refl _ _⟩
/-- The document's sum in order. -/
theorem rLeft_any (a : Option Addr) (len cap : Nat) (xs : List Nat) (hx : ∀ x ∈ xs, x < 18446744073709551616) (hreach : xs.length ≤ 17592186043904) (w : World) (hI : FltAt w.heap.size w (.slice a len cap) xs) :
    Calls Tryz.prog 14 #[.slice a len cap] w fun e W' => e = .returned (.float .f64 (sumC xs)) ∧ Below w.heap.size w W' := by
  rcases hI with ⟨h1, rfl⟩ | ⟨b, off, c, h1, hb, hc⟩
  · cases h1
    exact rLeft_nil w
  · cases h1
    exact rLeft_some b off cap xs hx hreach w hb hc
end Go.Proofs.YtehnkgonhgjeiaaGreatDoor

namespace Go.Proofs.YtehnkgonhgjeiaaGreatDoor
open Go.RowKit Go.IntWalk

theorem ret_flS {a b : Nat} (h : a = b) : Ending.returned (.float .f64 a) = .returned (.float .f64 b) := by rw [h]
set_option maxHeartbeats 400000 in
theorem abs_flS (x : Nat) (w : World) (hx : x < 18446744073709551616) : Calls Tryz.prog 60 #[.float .f64 x] w fun r w' => r = .returned (.float .f64 (x % 9223372036854775808)) ∧ w' = w := by
  have h1 := f64bits
  have h2 := f64fromI3
  have H := hid (andNot_sign x hx)
  clear hx
  go_enter Tryz.func60, Tryz.ntmps60
  go_wp2
  go_ret
  exact ⟨ret_flS (by rw [H.out]; rfl), rfl⟩
/-- Is the first one's amount at least the second one's? -/
def geA (x y : Nat) : Bool := FloatKind.f64.format.order (x % 9223372036854775808) (y % 9223372036854775808) == some .gt || FloatKind.f64.format.order (x % 9223372036854775808) (y % 9223372036854775808) == some .eq
theorem order_nanL (x y : Nat) (h : 9218868437227405312 < x % 9223372036854775808) : FloatKind.f64.format.order x y = none := by
  obtain ⟨s, t, e⟩ := read_nan x h
  unfold Ieee.Format.order
  rw [e]
  rfl
theorem order_nanR (x y : Nat) (h : 9218868437227405312 < y % 9223372036854775808) : FloatKind.f64.format.order x y = none := by
  obtain ⟨s, t, e⟩ := read_nan y h
  unfold Ieee.Format.order
  rw [e]
  cases FloatKind.f64.format.read x <;> rfl
theorem geA_can (x y : Nat) (hx : x < 18446744073709551616) (hy : y < 18446744073709551616) : geA x y = geA (canonOf x) (canonOf y) := by
  unfold geA
  rcases canon_is x hx with ⟨n1, e1⟩ | ⟨n1, e1⟩
  · rw [e1, order_nanL (x % 9223372036854775808) _ (by rw [Nat.mod_mod]; exact n1.2), order_nanL (9221120237041090561 % 9223372036854775808) _ (by decide)]
  · rcases canon_is y hy with ⟨n2, e2⟩ | ⟨n2, e2⟩
    · rw [e2, order_nanR _ (y % 9223372036854775808) (by rw [Nat.mod_mod]; exact n2.2), order_nanR _ (9221120237041090561 % 9223372036854775808) (by decide)]
    · rw [e1, e2]
/-- A step of Neumaier's sum, of canonical numbers. -/
def neuStep (p : Nat × Nat) (x : Nat) : Nat × Nat :=
  (caf .add p.1 x, caf .add p.2 (if geA p.1 x = true then caf .add (caf .sub p.1 (caf .add p.1 x)) x else caf .add (caf .sub x (caf .add p.1 x)) p.1))
def neuP (xs : List Nat) : Nat × Nat := xs.foldl (fun p x => neuStep p (canonOf x)) (0, 0)
def neuC (xs : List Nat) : Nat := caf .add (neuP xs).1 (neuP xs).2
theorem neuP_snoc (xs : List Nat) (x : Nat) : neuP (xs ++ [x]) = neuStep (neuP xs) (canonOf x) := by unfold neuP; rw [List.foldl_append]; rfl
set_option maxHeartbeats 4000000 in
theorem Neum_some (b off cap : Nat) (xs : List Nat) (hx : ∀ x ∈ xs, x < 18446744073709551616) (hreach : xs.length ≤ 17592186043904) (w : World) (hb : b < w.heap.size) (hc : ∀ j, j < xs.length → w.cell? ⟨b, off + j, none⟩ = some (.float .f64 (xs.getD j 0))) :
    Calls Tryz.prog 19 #[.slice (some ⟨b, off, none⟩) xs.length cap] w fun e W' => e = .returned (.float .f64 (neuC xs)) ∧ Below w.heap.size w W' := by
  have r1 := ar_run .add ok_a
  have r2 := ar_run .sub ok_s
  have HX := hid hx
  have HC := hid hc
  have HCE := hid (List.take_length (l := xs))
  clear hx hc
  obtain ⟨N, hN⟩ : ∃ N, Hid (xs.length = N) := ⟨_, rfl⟩
  rw [hN.out] at hreach HC HCE ⊢
  go_enter Tryz.func19, Tryz.ntmps19
  go_wp2_with fail
  go_loopw [3, 4, 10] (fun s c i wr => ∃ k s0 c0 : Nat, k ≤ N ∧ s = .float .f64 s0 ∧ c = .float .f64 c0 ∧ i = .int .i64 k ∧ Hid (s0 < 18446744073709551616 ∧ c0 < 18446744073709551616 ∧ canonOf s0 = (neuP (xs.take k)).1 ∧ canonOf c0 = (neuP (xs.take k)).2) ∧ Hid (Below w.heap.size w wr)) (fun _ _ i _ => N - (intOf i).toNat)
  case atStart => exact ⟨0, 0, 0, Nat.zero_le _, rfl, rfl, rfl, ⟨by decide, by decide, by rw [List.take_zero]; decide, by rw [List.take_zero]; decide⟩, Below.refl _ _⟩
  case round =>
    obtain ⟨k, s0, c0, hk, rfl, rfl, rfl, HS, HB⟩ := hrel
    by_cases hlt : k < N
    · have hck : wr.cell? ⟨b, off + k, none⟩ = some (.float .f64 (xs.getD k 0)) := (HB.out.cell (p := ⟨b, off + k, none⟩) hb).trans (HC.out k hlt)
      have HT : Hid (xs.take (k + 1) = xs.take k ++ [xs.getD k 0]) := take_next xs k (by rw [hN.out]; exact hlt)
      have HXK : Hid (xs.getD k 0 < 18446744073709551616) := HX.out _ (mem_get xs k (by rw [hN.out]; exact hlt))
      obtain ⟨x, hx⟩ : ∃ x, Hid (xs.getD k 0 = x) := ⟨_, rfl⟩
      rw [hx.out] at hck HT HXK
      have hkI : (k : Int) < (N : Int) := by omega
      have hk0 : (0 : Int) ≤ (k : Int) := by omega
      have HP : Hid (neuP (xs.take (k + 1)) = neuStep (canonOf s0, canonOf c0) (canonOf x)) := by
        show _ = _
        rw [HT.out, neuP_snoc, HS.out.2.2.1, HS.out.2.2.2]
      have HG : Hid (geA s0 x = geA (canonOf s0) (canonOf x)) := geA_can s0 x HS.out.1 HXK.out
      have HA1 := hid (fun (V : World) => abs_flS s0 V HS.out.1)
      have HA2 := hid (fun (V : World) => abs_flS x V HXK.out)
      go_wp2_with fail
      refine (HA1.out _).mono ?_
      rintro r w1 ⟨rfl, rfl⟩
      go_wp2_with fail
      refine (HA2.out _).mono ?_
      rintro r w1 ⟨rfl, rfl⟩
      by_cases hge : geA s0 x = true
      · have hge' := hge
        unfold geA at hge'
        have HGG := hid hge
        clear hge
        go_wp2
        refine ⟨⟨k + 1, _, _, by omega, rfl, rfl, by go_num, ⟨arF_lt ok_a _ _ _, arF_lt ok_a _ _ _, ?_, ?_⟩, ?_⟩, ?_⟩
        · rw [HP.out, canon_ar ok_a _ _ _ HS.out.1 HXK.out]; rfl
        · rw [HP.out]
          have h1 := HS.out.1
          have h2 := HS.out.2.1
          have h3 := HXK.out
          simp only [neuStep]
          rw [if_pos (by rw [← HG.out]; exact HGG.out)]
          simp [canon_ar, arF_lt, h1, h2, h3]
        · repeat' (first | exact HB.out | refine bl_ar ?_ _ _ _)
        · simp [intOf]; omega
      · have hge2 : geA s0 x = false := by revert hge; cases geA s0 x <;> simp
        have hge' := hge2
        unfold geA at hge'
        have HGG := hid hge2
        clear hge hge2
        go_wp2
        refine ⟨⟨k + 1, _, _, by omega, rfl, rfl, by go_num, ⟨arF_lt ok_a _ _ _, arF_lt ok_a _ _ _, ?_, ?_⟩, ?_⟩, ?_⟩
        · rw [HP.out, canon_ar ok_a _ _ _ HS.out.1 HXK.out]; rfl
        · rw [HP.out]
          have h1 := HS.out.1
          have h2 := HS.out.2.1
          have h3 := HXK.out
          simp only [neuStep]
          rw [if_neg (by rw [← HG.out, HGG.out]; simp)]
          simp [canon_ar, arF_lt, h1, h2, h3]
        · repeat' (first | exact HB.out | refine bl_ar ?_ _ _ _)
        · simp [intOf]; omega
    · obtain rfl : k = N := by omega
      rw [HCE.out] at HS
      have HR := hid (fun (V : World) => Canon_any (arF .add s0 c0 wr) V (arF_lt ok_a _ _ _))
      rw [canon_ar ok_a _ _ _ HS.out.1 HS.out.2.1, HS.out.2.2.1, HS.out.2.2.2] at HR
      go_wp2_with fail
      refine (HR.out _).mono ?_
      rintro r w1 ⟨rfl, hb1⟩
      go_wp2
      go_ret
      exact ⟨rfl, Below.trans (bl_ar HB.out _ _ _) (hb1.mono (by rw [arG_heap]; exact HB.out.size))⟩
set_option maxHeartbeats 1000000 in
theorem Neum_nil (w : World) : Calls Tryz.prog 19 #[.slice none 0 0] w fun e W' => e = .returned (.float .f64 0) ∧ Below w.heap.size w W' := by
  have r1 := f_add (x := 0) (y := 0) (z := 0) (by decide +kernel)
  have HR := hid (fun (V : World) => Canon_any 0 V (by decide))
  rw [show canonOf 0 = 0 by decide] at HR
  go_enter Tryz.func19, Tryz.ntmps19
  go_wp2_with fail
  go_loopw [3, 4, 10] (fun s c i wr => s = .float .f64 0 ∧ c = .float .f64 0 ∧ i = .int .i64 0 ∧ wr = w) (fun _ _ _ _ => 0)
  case atStart => exact ⟨rfl, rfl, rfl, rfl⟩
  case round =>
    obtain ⟨rfl, rfl, rfl, rfl⟩ := hrel
    go_wp2_with fail
    refine (HR.out _).mono ?_
    rintro r w1 ⟨rfl, hb1⟩
    go_wp2
    go_ret
    exact ⟨rfl, hb1⟩
theorem Neum_any (a : Option Addr) (len cap : Nat) (xs : List Nat) (hx : ∀ x ∈ xs, x < 18446744073709551616) (hreach : xs.length ≤ 17592186043904) (w : World) (hI : FltAt w.heap.size w (.slice a len cap) xs) :
    Calls Tryz.prog 19 #[.slice a len cap] w fun e W' => e = .returned (.float .f64 (neuC xs)) ∧ Below w.heap.size w W' := by
  rcases hI with ⟨h1, rfl⟩ | ⟨b, off, c, h1, hb, hc⟩
  · cases h1
    have := Neum_nil w
    rw [show neuC [] = 0 by decide +kernel]
    exact this
  · cases h1
    exact Neum_some b off cap xs hx hreach w hb hc
set_option maxHeartbeats 4000000 in
theorem rNeum_some (b off cap : Nat) (xs : List Nat) (hx : ∀ x ∈ xs, x < 18446744073709551616) (hreach : xs.length ≤ 17592186043904) (w : World) (hb : b < w.heap.size) (hc : ∀ j, j < xs.length → w.cell? ⟨b, off + j, none⟩ = some (.float .f64 (xs.getD j 0))) :
    Calls Tryz.prog 20 #[.slice (some ⟨b, off, none⟩) xs.length cap] w fun e W' => e = .returned (.float .f64 (neuC xs)) ∧ Below w.heap.size w W' := by
  have r1 := ar_run .add ok_a
  have r2 := ar_run .sub ok_s
  have HX := hid hx
  have HC := hid hc
  have HCE := hid (List.take_length (l := xs))
  clear hx hc
  obtain ⟨N, hN⟩ : ∃ N, Hid (xs.length = N) := ⟨_, rfl⟩
  rw [hN.out] at hreach HC HCE ⊢
  go_enter Tryz.func20, Tryz.ntmps20
  go_wp2_with fail
  go_loopw [3, 4, 10] (fun s c i wr => ∃ k s0 c0 : Nat, k ≤ N ∧ s = .float .f64 s0 ∧ c = .float .f64 c0 ∧ i = .int .i64 k ∧ Hid (s0 < 18446744073709551616 ∧ c0 < 18446744073709551616 ∧ canonOf s0 = (neuP (xs.take k)).1 ∧ canonOf c0 = (neuP (xs.take k)).2) ∧ Hid (Below w.heap.size w wr)) (fun _ _ i _ => N - (intOf i).toNat)
  case atStart => exact ⟨0, 0, 0, Nat.zero_le _, rfl, rfl, rfl, ⟨by decide, by decide, by rw [List.take_zero]; decide, by rw [List.take_zero]; decide⟩, Below.refl _ _⟩
  case round =>
    obtain ⟨k, s0, c0, hk, rfl, rfl, rfl, HS, HB⟩ := hrel
    by_cases hlt : k < N
    · have hck : wr.cell? ⟨b, off + k, none⟩ = some (.float .f64 (xs.getD k 0)) := (HB.out.cell (p := ⟨b, off + k, none⟩) hb).trans (HC.out k hlt)
      have HT : Hid (xs.take (k + 1) = xs.take k ++ [xs.getD k 0]) := take_next xs k (by rw [hN.out]; exact hlt)
      have HXK : Hid (xs.getD k 0 < 18446744073709551616) := HX.out _ (mem_get xs k (by rw [hN.out]; exact hlt))
      obtain ⟨x, hx⟩ : ∃ x, Hid (xs.getD k 0 = x) := ⟨_, rfl⟩
      rw [hx.out] at hck HT HXK
      have hkI : (k : Int) < (N : Int) := by omega
      have hk0 : (0 : Int) ≤ (k : Int) := by omega
      have HP : Hid (neuP (xs.take (k + 1)) = neuStep (canonOf s0, canonOf c0) (canonOf x)) := by
        show _ = _
        rw [HT.out, neuP_snoc, HS.out.2.2.1, HS.out.2.2.2]
      have HG : Hid (geA s0 x = geA (canonOf s0) (canonOf x)) := geA_can s0 x HS.out.1 HXK.out
      have HA1 := hid (fun (V : World) => abs_flS s0 V HS.out.1)
      have HA2 := hid (fun (V : World) => abs_flS x V HXK.out)
      go_wp2_with fail
      refine (HA1.out _).mono ?_
      rintro r w1 ⟨rfl, rfl⟩
      go_wp2_with fail
      refine (HA2.out _).mono ?_
      rintro r w1 ⟨rfl, rfl⟩
      by_cases hge : geA s0 x = true
      · have hge' := hge
        unfold geA at hge'
        have HGG := hid hge
        clear hge
        go_wp2
        refine ⟨⟨k + 1, _, _, by omega, rfl, rfl, by go_num, ⟨arF_lt ok_a _ _ _, arF_lt ok_a _ _ _, ?_, ?_⟩, ?_⟩, ?_⟩
        · rw [HP.out, canon_ar ok_a _ _ _ HS.out.1 HXK.out]; rfl
        · rw [HP.out]
          have h1 := HS.out.1
          have h2 := HS.out.2.1
          have h3 := HXK.out
          simp only [neuStep]
          rw [if_pos (by rw [← HG.out]; exact HGG.out)]
          simp [canon_ar, arF_lt, h1, h2, h3]
        · repeat' (first | exact HB.out | refine bl_ar ?_ _ _ _)
        · simp [intOf]; omega
      · have hge2 : geA s0 x = false := by revert hge; cases geA s0 x <;> simp
        have hge' := hge2
        unfold geA at hge'
        have HGG := hid hge2
        clear hge hge2
        go_wp2
        refine ⟨⟨k + 1, _, _, by omega, rfl, rfl, by go_num, ⟨arF_lt ok_a _ _ _, arF_lt ok_a _ _ _, ?_, ?_⟩, ?_⟩, ?_⟩
        · rw [HP.out, canon_ar ok_a _ _ _ HS.out.1 HXK.out]; rfl
        · rw [HP.out]
          have h1 := HS.out.1
          have h2 := HS.out.2.1
          have h3 := HXK.out
          simp only [neuStep]
          rw [if_neg (by rw [← HG.out, HGG.out]; simp)]
          simp [canon_ar, arF_lt, h1, h2, h3]
        · repeat' (first | exact HB.out | refine bl_ar ?_ _ _ _)
        · simp [intOf]; omega
    · obtain rfl : k = N := by omega
      rw [HCE.out] at HS
      have HR := hid (fun (V : World) => rcanonS_any (arF .add s0 c0 wr) V (arF_lt ok_a _ _ _))
      rw [canon_ar ok_a _ _ _ HS.out.1 HS.out.2.1, HS.out.2.2.1, HS.out.2.2.2] at HR
      go_wp2_with fail
      refine (HR.out _).mono ?_
      rintro r w1 ⟨rfl, rfl⟩
      go_wp2
      go_ret
      exact ⟨rfl, bl_ar HB.out _ _ _⟩
set_option maxHeartbeats 1000000 in
theorem rNeum_nil (w : World) : Calls Tryz.prog 20 #[.slice none 0 0] w fun e W' => e = .returned (.float .f64 0) ∧ Below w.heap.size w W' := by
  have r1 := f_add (x := 0) (y := 0) (z := 0) (by decide +kernel)
  have HR := hid (fun (V : World) => rcanonS_any 0 V (by decide))
  rw [show canonOf 0 = 0 by decide] at HR
  go_enter Tryz.func20, Tryz.ntmps20
  go_wp2_with fail
  go_loopw [3, 4, 10] (fun s c i wr => s = .float .f64 0 ∧ c = .float .f64 0 ∧ i = .int .i64 0 ∧ wr = w) (fun _ _ _ _ => 0)
  case atStart => exact ⟨rfl, rfl, rfl, rfl⟩
  case round =>
    obtain ⟨rfl, rfl, rfl, rfl⟩ := hrel
    go_wp2_with fail
    refine (HR.out _).mono ?_
    rintro r w1 ⟨rfl, rfl⟩
    go_wp2
    go_ret
    exact ⟨rfl, Below.refl _ _⟩
theorem rNeum_any (a : Option Addr) (len cap : Nat) (xs : List Nat) (hx : ∀ x ∈ xs, x < 18446744073709551616) (hreach : xs.length ≤ 17592186043904) (w : World) (hI : FltAt w.heap.size w (.slice a len cap) xs) :
    Calls Tryz.prog 20 #[.slice a len cap] w fun e W' => e = .returned (.float .f64 (neuC xs)) ∧ Below w.heap.size w W' := by
  rcases hI with ⟨h1, rfl⟩ | ⟨b, off, c, h1, hb, hc⟩
  · cases h1
    have := rNeum_nil w
    rw [show neuC [] = 0 by decide +kernel]
    exact this
  · cases h1
    exact rNeum_some b off cap xs hx hreach w hb hc
end Go.Proofs.YtehnkgonhgjeiaaGreatDoor
