
/- The document's sum in order and the sums of all beginnings. -/
import Derived.Test.YtehnkgonhgjeiaaGreatDoorP44
import Derived.Test.YtehnkgonhgjeiaaGreatDoorP25
import Derived.Test.YtehnkgonhgjeiaaGreatDoorP4
import Derived.Test.YtehnkgonhgjeiaaGreatDoorP21
import Derived.Deep.RegionHeld3
namespace Go.Proofs.YtehnkgonhgjeiaaGreatDoor
open Go.RowKit Go.IntWalk

theorem Owns.kept {w w' : World} {base : Nat} {v : Value} {xs : List Nat} (h : Owns w base v xs) (hb : Below w.heap.size w w') : Owns w' base v xs := by
  obtain ⟨h1, h2 | ⟨g, cap, cur, e1, e2, e3, e4⟩⟩ := h
  · exact ⟨h1, .inl h2⟩
  · exact ⟨h1, .inr ⟨g, cap, cur, e1, e2, (hb.block g (Array.getElem?_eq_some_iff.1 e3).1).trans e3, e4⟩⟩
set_option maxHeartbeats 400000 in
theorem rcanonS_any (x : Nat) (w : World) (hx : x < 18446744073709551616) :
    Calls Tryz.prog 57 #[.float .f64 x] w fun e w' => e = .returned (.float .f64 (canonOf x)) ∧ w' = w := by
  have h2 := f64from
  go_enter Tryz.func57, Tryz.ntmps57
  go_wp2_with fail
  refine (bits_any x _ hx).mono ?_
  rintro e w' ⟨rfl, rfl⟩
  go_wp2_with fail
  go_ret
  exact ⟨rfl, rfl⟩
theorem mem_get (xs : List Nat) (k : Nat) (h : k < xs.length) : xs.getD k 0 ∈ xs := by
  rw [List.getD_eq_getElem?_getD, List.getElem?_eq_getElem h]
  exact List.getElem_mem _
theorem get_take (xs : List Nat) (k j : Nat) (h : j < k) : (xs.take k).getD j 0 = xs.getD j 0 := by
  rw [List.getD_eq_getElem?_getD, List.getD_eq_getElem?_getD, List.getElem?_take, if_pos h]
set_option maxHeartbeats 2000000 in
theorem rLeft_some (b off cap : Nat) (xs : List Nat) (hx : ∀ x ∈ xs, x < 18446744073709551616) (hreach : xs.length ≤ 17592186043904) (w : World) (hb : b < w.heap.size) (hc : ∀ j, j < xs.length → w.cell? ⟨b, off + j, none⟩ = some (.float .f64 (xs.getD j 0))) :
    Calls Tryz.prog 14 #[.slice (some ⟨b, off, none⟩) xs.length cap] w fun e W' => e = .returned (.float .f64 (sumC xs)) ∧ Below w.heap.size w W' := by
  have r1 := ar_run .add ok_a
  have HX := hid hx
  have HC := hid hc
  have HCE := hid (List.take_length (l := xs))
  clear hx hc
  obtain ⟨N, hN⟩ : ∃ N, Hid (xs.length = N) := ⟨_, rfl⟩
  rw [hN.out] at hreach HC HCE ⊢
  go_enter Tryz.func14, Tryz.ntmps14
  go_wp2_with fail
  go_loopw [3, 8] (fun s i wr => ∃ k s0 : Nat, k ≤ N ∧ s = .float .f64 s0 ∧ i = .int .i64 k ∧ Hid (s0 < 18446744073709551616 ∧ canonOf s0 = sumC (xs.take k)) ∧ Hid (Below w.heap.size w wr)) (fun _ i _ => N - (intOf i).toNat)
  case atStart => exact ⟨0, 0, Nat.zero_le _, rfl, rfl, ⟨by decide, by rw [List.take_zero, sumC_nil]; decide⟩, Below.refl _ _⟩
  case round =>
    obtain ⟨k, s0, hk, rfl, rfl, HS, HB⟩ := hrel
    by_cases hlt : k < N
    · have hck : wr.cell? ⟨b, off + k, none⟩ = some (.float .f64 (xs.getD k 0)) := (HB.out.cell (p := ⟨b, off + k, none⟩) hb).trans (HC.out k hlt)
      have HT : Hid (xs.take (k + 1) = xs.take k ++ [xs.getD k 0]) := take_next xs k (by rw [hN.out]; exact hlt)
      have HXK : Hid (xs.getD k 0 < 18446744073709551616) := HX.out _ (mem_get xs k (by rw [hN.out]; exact hlt))
      obtain ⟨x, hx⟩ : ∃ x, Hid (xs.getD k 0 = x) := ⟨_, rfl⟩
      rw [hx.out] at hck HT HXK
      have hkI : (k : Int) < (N : Int) := by omega
      have hk0 : (0 : Int) ≤ (k : Int) := by omega
      have HSN : Hid (arF .add s0 x wr < 18446744073709551616 ∧ canonOf (arF .add s0 x wr) = sumC (xs.take (k + 1))) := ⟨arF_lt ok_a _ _ _, by rw [canon_ar ok_a _ _ _ HS.out.1 HXK.out, HS.out.2, ← sumC_snoc, ← HT.out]⟩
      have HBN : Hid (Below w.heap.size w (arG .add s0 x wr)) := bl_ar HB.out _ _ _
      go_wp2
      refine ⟨⟨k + 1, _, by omega, rfl, by go_num, HSN, HBN⟩, ?_⟩
      simp [intOf]; omega
    · obtain rfl : k = N := by omega
      rw [HCE.out] at HS
      have HR := hid (fun (V : World) => rcanonS_any s0 V HS.out.1)
      rw [HS.out.2] at HR
      go_wp2_with fail
      refine (HR.out _).mono ?_
      rintro r w1 ⟨rfl, rfl⟩
      go_wp2
      go_ret
      exact ⟨rfl, HB.out⟩
set_option maxHeartbeats 1000000 in
theorem rLeft_nil (w : World) : Calls Tryz.prog 14 #[.slice none 0 0] w fun e W' => e = .returned (.float .f64 0) ∧ Below w.heap.size w W' := by
  have HR := hid (fun (V : World) => rcanonS_any 0 V (by decide))
  rw [show canonOf 0 = 0 by decide] at HR
  go_enter Tryz.func14, Tryz.ntmps14
  go_wp2_with fail
  go_loopw [3, 8] (fun s i wr => s = .float .f64 0 ∧ i = .int .i64 0 ∧ wr = w) (fun _ _ _ => 0)
  case atStart => exact ⟨rfl, rfl, rfl⟩
  case round =>
    obtain ⟨rfl, rfl, rfl⟩ := hrel
    go_wp2_with fail
    refine (HR.out _).mono ?_
    rintro r w1 ⟨rfl, rfl⟩
    go_wp2
    go_ret
    exact ⟨rfl, Below.refl _ _⟩
/-- The document's sum in order. -/
theorem rLeft_any (a : Option Addr) (len cap : Nat) (xs : List Nat) (hx : ∀ x ∈ xs, x < 18446744073709551616) (hreach : xs.length ≤ 17592186043904) (w : World) (hI : FltAt w.heap.size w (.slice a len cap) xs) :
    Calls Tryz.prog 14 #[.slice a len cap] w fun e W' => e = .returned (.float .f64 (sumC xs)) ∧ Below w.heap.size w W' := by
  rcases hI with ⟨h1, rfl⟩ | ⟨b, off, c, h1, hb, hc⟩
  · cases h1
    exact rLeft_nil w
  · cases h1
    exact rLeft_some b off cap xs hx hreach w hb hc
end Go.Proofs.YtehnkgonhgjeiaaGreatDoor

namespace Go.Proofs.YtehnkgonhgjeiaaGreatDoor
open Go.RowKit Go.IntWalk

theorem ret_flS {a b : Nat} (h : a = b) : Ending.returned (.float .f64 a) = .returned (.float .f64 b) := by rw [h]
set_option maxHeartbeats 400000 in
theorem abs_flS (x : Nat) (w : World) (hx : x < 18446744073709551616) : Calls Tryz.prog 60 #[.float .f64 x] w fun r w' => r = .returned (.float .f64 (x % 9223372036854775808)) ∧ w' = w := by
  have h1 := f64bits
  have h2 := f64fromI3
  have H := hid (andNot_sign x hx)
  clear hx
  go_enter Tryz.func60, Tryz.ntmps60
  go_wp2
  go_ret
  exact ⟨ret_flS (by rw [H.out]; rfl), rfl⟩
/-- Is the first one's amount at least the second one's? -/
def geA (x y : Nat) : Bool := FloatKind.f64.format.order (x % 9223372036854775808) (y % 9223372036854775808) == some .gt || FloatKind.f64.format.order (x % 9223372036854775808) (y % 9223372036854775808) == some .eq
theorem order_nanL (x y : Nat) (h : 9218868437227405312 < x % 9223372036854775808) : FloatKind.f64.format.order x y = none := by
  obtain ⟨s, t, e⟩ := read_nan x h
  unfold Ieee.Format.order
  rw [e]
  rfl
theorem order_nanR (x y : Nat) (h : 9218868437227405312 < y % 9223372036854775808) : FloatKind.f64.format.order x y = none := by
  obtain ⟨s, t, e⟩ := read_nan y h
  unfold Ieee.Format.order
  rw [e]
  cases FloatKind.f64.format.read x <;> rfl
theorem geA_can (x y : Nat) (hx : x < 18446744073709551616) (hy : y < 18446744073709551616) : geA x y = geA (canonOf x) (canonOf y) := by
  unfold geA
  rcases canon_is x hx with ⟨n1, e1⟩ | ⟨n1, e1⟩
  · rw [e1, order_nanL (x % 9223372036854775808) _ (by rw [Nat.mod_mod]; exact n1.2), order_nanL (9221120237041090561 % 9223372036854775808) _ (by decide)]
  · rcases canon_is y hy with ⟨n2, e2⟩ | ⟨n2, e2⟩
    · rw [e2, order_nanR _ (y % 9223372036854775808) (by rw [Nat.mod_mod]; exact n2.2), order_nanR _ (9221120237041090561 % 9223372036854775808) (by decide)]
    · rw [e1, e2]
/-- A step of Neumaier's sum, of canonical numbers. -/
def neuStep (p : Nat × Nat) (x : Nat) : Nat × Nat :=
  (caf .add p.1 x, caf .add p.2 (if geA p.1 x = true then caf .add (caf .sub p.1 (caf .add p.1 x)) x else caf .add (caf .sub x (caf .add p.1 x)) p.1))
def neuP (xs : List Nat) : Nat × Nat := xs.foldl (fun p x => neuStep p (canonOf x)) (0, 0)
def neuC (xs : List Nat) : Nat := caf .add (neuP xs).1 (neuP xs).2
theorem neuP_snoc (xs : List Nat) (x : Nat) : neuP (xs ++ [x]) = neuStep (neuP xs) (canonOf x) := by unfold neuP; rw [List.foldl_append]; rfl
set_option maxHeartbeats 4000000 in
theorem Neum_some (b off cap : Nat) (xs : List Nat) (hx : ∀ x ∈ xs, x < 18446744073709551616) (hreach : xs.length ≤ 17592186043904) (w : World) (hb : b < w.heap.size) (hc : ∀ j, j < xs.length → w.cell? ⟨b, off + j, none⟩ = some (.float .f64 (xs.getD j 0))) :
    Calls Tryz.prog 19 #[.slice (some ⟨b, off, none⟩) xs.length cap] w fun e W' => e = .returned (.float .f64 (neuC xs)) ∧ Below w.heap.size w W' := by
  have r1 := ar_run .add ok_a
  have r2 := ar_run .sub ok_s
  have HX := hid hx
  have HC := hid hc
  have HCE := hid (List.take_length (l := xs))
  clear hx hc
  obtain ⟨N, hN⟩ : ∃ N, Hid (xs.length = N) := ⟨_, rfl⟩
  rw [hN.out] at hreach HC HCE ⊢
  go_enter Tryz.func19, Tryz.ntmps19
  go_wp2_with fail
  go_loopw [3, 4, 10] (fun s c i wr => ∃ k s0 c0 : Nat, k ≤ N ∧ s = .float .f64 s0 ∧ c = .float .f64 c0 ∧ i = .int .i64 k ∧ Hid (s0 < 18446744073709551616 ∧ c0 < 18446744073709551616 ∧ canonOf s0 = (neuP (xs.take k)).1 ∧ canonOf c0 = (neuP (xs.take k)).2) ∧ Hid (Below w.heap.size w wr)) (fun _ _ i _ => N - (intOf i).toNat)
  case atStart => exact ⟨0, 0, 0, Nat.zero_le _, rfl, rfl, rfl, ⟨by decide, by decide, by rw [List.take_zero]; decide, by rw [List.take_zero]; decide⟩, Below.refl _ _⟩
  case round =>
    obtain ⟨k, s0, c0, hk, rfl, rfl, rfl, HS, HB⟩ := hrel
    by_cases hlt : k < N
    · have hck : wr.cell? ⟨b, off + k, none⟩ = some (.float .f64 (xs.getD k 0)) := (HB.out.cell (p := ⟨b, off + k, none⟩) hb).trans (HC.out k hlt)
      have HT : Hid (xs.take (k + 1) = xs.take k ++ [xs.getD k 0]) := take_next xs k (by rw [hN.out]; exact hlt)
      have HXK : Hid (xs.getD k 0 < 18446744073709551616) := HX.out _ (mem_get xs k (by rw [hN.out]; exact hlt))
      obtain ⟨x, hx⟩ : ∃ x, Hid (xs.getD k 0 = x) := ⟨_, rfl⟩
      rw [hx.out] at hck HT HXK
      have hkI : (k : Int) < (N : Int) := by omega
      have hk0 : (0 : Int) ≤ (k : Int) := by omega
      have HP : Hid (neuP (xs.take (k + 1)) = neuStep (canonOf s0, canonOf c0) (canonOf x)) := by
        show _ = _
        rw [HT.out, neuP_snoc, HS.out.2.2.1, HS.out.2.2.2]
      have HG : Hid (geA s0 x = geA (canonOf s0) (canonOf x)) := geA_can s0 x HS.out.1 HXK.out
      have HA1 := hid (fun (V : World) => abs_flS s0 V HS.out.1)
      have HA2 := hid (fun (V : World) => abs_flS x V HXK.out)
      go_wp2_with fail
      refine (HA1.out _).mono ?_
      rintro r w1 ⟨rfl, rfl⟩
      go_wp2_with fail
      refine (HA2.out _).mono ?_
      rintro r w1 ⟨rfl, rfl⟩
      by_cases hge : geA s0 x = true
      · have hge' := hge
        unfold geA at hge'
        have HGG := hid hge
        clear hge
        go_wp2
        refine ⟨⟨k + 1, _, _, by omega, rfl, rfl, by go_num, ⟨arF_lt ok_a _ _ _, arF_lt ok_a _ _ _, ?_, ?_⟩, ?_⟩, ?_⟩
        · rw [HP.out, canon_ar ok_a _ _ _ HS.out.1 HXK.out]; rfl
        · rw [HP.out]
          have h1 := HS.out.1
          have h2 := HS.out.2.1
          have h3 := HXK.out
          simp only [neuStep]
          rw [if_pos (by rw [← HG.out]; exact HGG.out)]
          simp [canon_ar, arF_lt, h1, h2, h3]
        · repeat' (first | exact HB.out | refine bl_ar ?_ _ _ _)
        · simp [intOf]; omega
      · have hge2 : geA s0 x = false := by revert hge; cases geA s0 x <;> simp
        have hge' := hge2
        unfold geA at hge'
        have HGG := hid hge2
        clear hge hge2
        go_wp2
        refine ⟨⟨k + 1, _, _, by omega, rfl, rfl, by go_num, ⟨arF_lt ok_a _ _ _, arF_lt ok_a _ _ _, ?_, ?_⟩, ?_⟩, ?_⟩
        · rw [HP.out, canon_ar ok_a _ _ _ HS.out.1 HXK.out]; rfl
        · rw [HP.out]
          have h1 := HS.out.1
          have h2 := HS.out.2.1
          have h3 := HXK.out
          simp only [neuStep]
          rw [if_neg (by rw [← HG.out, HGG.out]; simp)]
          simp [canon_ar, arF_lt, h1, h2, h3]
        · repeat' (first | exact HB.out | refine bl_ar ?_ _ _ _)
        · simp [intOf]; omega
    · obtain rfl : k = N := by omega
      rw [HCE.out] at HS
      have HR := hid (fun (V : World) => Canon_any (arF .add s0 c0 wr) V (arF_lt ok_a _ _ _))
      rw [canon_ar ok_a _ _ _ HS.out.1 HS.out.2.1, HS.out.2.2.1, HS.out.2.2.2] at HR
      go_wp2_with fail
      refine (HR.out _).mono ?_
      rintro r w1 ⟨rfl, hb1⟩
      go_wp2
      go_ret
      exact ⟨rfl, Below.trans (bl_ar HB.out _ _ _) (hb1.mono (by rw [arG_heap]; exact HB.out.size))⟩
set_option maxHeartbeats 1000000 in
theorem Neum_nil (w : World) : Calls Tryz.prog 19 #[.slice none 0 0] w fun e W' => e = .returned (.float .f64 0) ∧ Below w.heap.size w W' := by
  have r1 := f_add (x := 0) (y := 0) (z := 0) (by decide +kernel)
  have HR := hid (fun (V : World) => Canon_any 0 V (by decide))
  rw [show canonOf 0 = 0 by decide] at HR
  go_enter Tryz.func19, Tryz.ntmps19
  go_wp2_with fail
  go_loopw [3, 4, 10] (fun s c i wr => s = .float .f64 0 ∧ c = .float .f64 0 ∧ i = .int .i64 0 ∧ wr = w) (fun _ _ _ _ => 0)
  case atStart => exact ⟨rfl, rfl, rfl, rfl⟩
  case round =>
    obtain ⟨rfl, rfl, rfl, rfl⟩ := hrel
    go_wp2_with fail
    refine (HR.out _).mono ?_
    rintro r w1 ⟨rfl, hb1⟩
    go_wp2
    go_ret
    exact ⟨rfl, hb1⟩
theorem Neum_any (a : Option Addr) (len cap : Nat) (xs : List Nat) (hx : ∀ x ∈ xs, x < 18446744073709551616) (hreach : xs.length ≤ 17592186043904) (w : World) (hI : FltAt w.heap.size w (.slice a len cap) xs) :
    Calls Tryz.prog 19 #[.slice a len cap] w fun e W' => e = .returned (.float .f64 (neuC xs)) ∧ Below w.heap.size w W' := by
  rcases hI with ⟨h1, rfl⟩ | ⟨b, off, c, h1, hb, hc⟩
  · cases h1
    have := Neum_nil w
    rw [show neuC [] = 0 by decide +kernel]
    exact this
  · cases h1
    exact Neum_some b off cap xs hx hreach w hb hc
set_option maxHeartbeats 4000000 in
theorem rNeum_some (b off cap : Nat) (xs : List Nat) (hx : ∀ x ∈ xs, x < 18446744073709551616) (hreach : xs.length ≤ 17592186043904) (w : World) (hb : b < w.heap.size) (hc : ∀ j, j < xs.length → w.cell? ⟨b, off + j, none⟩ = some (.float .f64 (xs.getD j 0))) :
    Calls Tryz.prog 20 #[.slice (some ⟨b, off, none⟩) xs.length cap] w fun e W' => e = .returned (.float .f64 (neuC xs)) ∧ Below w.heap.size w W' := by
  have r1 := ar_run .add ok_a
  have r2 := ar_run .sub ok_s
  have HX := hid hx
  have HC := hid hc
  have HCE := hid (List.take_length (l := xs))
  clear hx hc
  obtain ⟨N, hN⟩ : ∃ N, Hid (xs.length = N) := ⟨_, rfl⟩
  rw [hN.out] at hreach HC HCE ⊢
  go_enter Tryz.func20, Tryz.ntmps20
  go_wp2_with fail
  go_loopw [3, 4, 10] (fun s c i wr => ∃ k s0 c0 : Nat, k ≤ N ∧ s = .float .f64 s0 ∧ c = .float .f64 c0 ∧ i = .int .i64 k ∧ Hid (s0 < 18446744073709551616 ∧ c0 < 18446744073709551616 ∧ canonOf s0 = (neuP (xs.take k)).1 ∧ canonOf c0 = (neuP (xs.take k)).2) ∧ Hid (Below w.heap.size w wr)) (fun _ _ i _ => N - (intOf i).toNat)
  case atStart => exact ⟨0, 0, 0, Nat.zero_le _, rfl, rfl, rfl, ⟨by decide, by decide, by rw [List.take_zero]; decide, by rw [List.take_zero]; decide⟩, Below.refl _ _⟩
  case round =>
    obtain ⟨k, s0, c0, hk, rfl, rfl, rfl, HS, HB⟩ := hrel
    by_cases hlt : k < N
    · have hck : wr.cell? ⟨b, off + k, none⟩ = some (.float .f64 (xs.getD k 0)) := (HB.out.cell (p := ⟨b, off + k, none⟩) hb).trans (HC.out k hlt)
      have HT : Hid (xs.take (k + 1) = xs.take k ++ [xs.getD k 0]) := take_next xs k (by rw [hN.out]; exact hlt)
      have HXK : Hid (xs.getD k 0 < 18446744073709551616) := HX.out _ (mem_get xs k (by rw [hN.out]; exact hlt))
      obtain ⟨x, hx⟩ : ∃ x, Hid (xs.getD k 0 = x) := ⟨_, rfl⟩
      rw [hx.out] at hck HT HXK
      have hkI : (k : Int) < (N : Int) := by omega
      have hk0 : (0 : Int) ≤ (k : Int) := by omega
      have HP : Hid (neuP (xs.take (k + 1)) = neuStep (canonOf s0, canonOf c0) (canonOf x)) := by
        show _ = _
        rw [HT.out, neuP_snoc, HS.out.2.2.1, HS.out.2.2.2]
      have HG : Hid (geA s0 x = geA (canonOf s0) (canonOf x)) := geA_can s0 x HS.out.1 HXK.out
      have HA1 := hid (fun (V : World) => abs_flS s0 V HS.out.1)
      have HA2 := hid (fun (V : World) => abs_flS x V HXK.out)
      go_wp2_with fail
      refine (HA1.out _).mono ?_
      rintro r w1 ⟨rfl, rfl⟩
      go_wp2_with fail
      refine (HA2.out _).mono ?_
      rintro r w1 ⟨rfl, rfl⟩
      by_cases hge : geA s0 x = true
      · have hge' := hge
        unfold geA at hge'
        have HGG := hid hge
        clear hge
        go_wp2
        refine ⟨⟨k + 1, _, _, by omega, rfl, rfl, by go_num, ⟨arF_lt ok_a _ _ _, arF_lt ok_a _ _ _, ?_, ?_⟩, ?_⟩, ?_⟩
        · rw [HP.out, canon_ar ok_a _ _ _ HS.out.1 HXK.out]; rfl
        · rw [HP.out]
          have h1 := HS.out.1
          have h2 := HS.out.2.1
          have h3 := HXK.out
          simp only [neuStep]
          rw [if_pos (by rw [← HG.out]; exact HGG.out)]
          simp [canon_ar, arF_lt, h1, h2, h3]
        · repeat' (first | exact HB.out | refine bl_ar ?_ _ _ _)
        · simp [intOf]; omega
      · have hge2 : geA s0 x = false := by revert hge; cases geA s0 x <;> simp
        have hge' := hge2
        unfold geA at hge'
        have HGG := hid hge2
        clear hge hge2
        go_wp2
        refine ⟨⟨k + 1, _, _, by omega, rfl, rfl, by go_num, ⟨arF_lt ok_a _ _ _, arF_lt ok_a _ _ _, ?_, ?_⟩, ?_⟩, ?_⟩
        · rw [HP.out, canon_ar ok_a _ _ _ HS.out.1 HXK.out]; rfl
        · rw [HP.out]
          have h1 := HS.out.1
          have h2 := HS.out.2.1
          have h3 := HXK.out
          simp only [neuStep]
          rw [if_neg (by rw [← HG.out, HGG.out]; simp)]
          simp [canon_ar, arF_lt, h1, h2, h3]
        · repeat' (first | exact HB.out | refine bl_ar ?_ _ _ _)
        · simp [intOf]; omega
    · obtain rfl : k = N := by omega
      rw [HCE.out] at HS
      have HR := hid (fun (V : World) => rcanonS_any (arF .add s0 c0 wr) V (arF_lt ok_a _ _ _))
      rw [canon_ar ok_a _ _ _ HS.out.1 HS.out.2.1, HS.out.2.2.1, HS.out.2.2.2] at HR
      go_wp2_with fail
      refine (HR.out _).mono ?_
      rintro r w1 ⟨rfl, rfl⟩
      go_wp2
      go_ret
      exact ⟨rfl, bl_ar HB.out _ _ _⟩
set_option maxHeartbeats 1000000 in
theorem rNeum_nil (w : World) : Calls Tryz.prog 20 #[.slice none 0 0] w fun e W' => e = .returned (.float .f64 0) ∧ Below w.heap.size w W' := by
  have r1 := f_add (x := 0) (y := 0) (z := 0) (by decide +kernel)
  have HR := hid (fun (V : World) => rcanonS_any 0 V (by decide))
  rw [show canonOf 0 = 0 by decide] at HR
  go_enter Tryz.func20, Tryz.ntmps20
  go_wp2_with fail
  go_loopw [3, 4, 10] (fun s c i wr => s = .float .f64 0 ∧ c = .float .f64 0 ∧ i = .int .i64 0 ∧ wr = w) (fun _ _ _ _ => 0)
  case atStart => exact ⟨rfl, rfl, rfl, rfl⟩
  case round =>
    obtain ⟨rfl, rfl, rfl, rfl⟩ := hrel
    go_wp2_with fail
    refine (HR.out _).mono ?_
    rintro r w1 ⟨rfl, rfl⟩
    go_wp2
    go_ret
    exact ⟨rfl, Below.refl _ _⟩
theorem rNeum_any (a : Option Addr) (len cap : Nat) (xs : List Nat) (hx : ∀ x ∈ xs, x < 18446744073709551616) (hreach : xs.length ≤ 17592186043904) (w : World) (hI : FltAt w.heap.size w (.slice a len cap) xs) :
    Calls Tryz.prog 20 #[.slice a len cap] w fun e W' => e = .returned (.float .f64 (neuC xs)) ∧ Below w.heap.size w W' := by
  rcases hI with ⟨h1, rfl⟩ | ⟨b, off, c, h1, hb, hc⟩
  · cases h1
    have := rNeum_nil w
    rw [show neuC [] = 0 by decide +kernel]
    exact this
  · cases h1
    exact rNeum_some b off cap xs hx hreach w hb hc
end Go.Proofs.YtehnkgonhgjeiaaGreatDoor

namespace Go.Proofs.YtehnkgonhgjeiaaGreatDoor
open Go.RowKit Go.IntWalk

/-- A step of Kahan's sum, of canonical numbers. -/
def kahStep (p : Nat × Nat) (x : Nat) : Nat × Nat :=
  (caf .add p.1 (caf .sub x p.2), caf .sub (caf .sub (caf .add p.1 (caf .sub x p.2)) p.1) (caf .sub x p.2))
def kahP (xs : List Nat) : Nat × Nat := xs.foldl (fun p x => kahStep p (canonOf x)) (0, 0)
def kahC (xs : List Nat) : Nat := (kahP xs).1
theorem kahP_snoc (xs : List Nat) (x : Nat) : kahP (xs ++ [x]) = kahStep (kahP xs) (canonOf x) := by unfold kahP; rw [List.foldl_append]; rfl
set_option maxHeartbeats 4000000 in
theorem Kah_some (b off cap : Nat) (xs : List Nat) (hx : ∀ x ∈ xs, x < 18446744073709551616) (hreach : xs.length ≤ 17592186043904) (w : World) (hb : b < w.heap.size) (hc : ∀ j, j < xs.length → w.cell? ⟨b, off + j, none⟩ = some (.float .f64 (xs.getD j 0))) :
    Calls Tryz.prog 17 #[.slice (some ⟨b, off, none⟩) xs.length cap] w fun e W' => e = .returned (.float .f64 (kahC xs)) ∧ Below w.heap.size w W' := by
  have r1 := ar_run .add ok_a
  have r2 := ar_run .sub ok_s
  have HX := hid hx
  have HC := hid hc
  have HCE := hid (List.take_length (l := xs))
  clear hx hc
  obtain ⟨N, hN⟩ : ∃ N, Hid (xs.length = N) := ⟨_, rfl⟩
  rw [hN.out] at hreach HC HCE ⊢
  go_enter Tryz.func17, Tryz.ntmps17
  go_wp2_with fail
  go_loopw [3, 4, 11] (fun s c i wr => ∃ k s0 c0 : Nat, k ≤ N ∧ s = .float .f64 s0 ∧ c = .float .f64 c0 ∧ i = .int .i64 k ∧ Hid (s0 < 18446744073709551616 ∧ c0 < 18446744073709551616 ∧ canonOf s0 = (kahP (xs.take k)).1 ∧ canonOf c0 = (kahP (xs.take k)).2) ∧ Hid (Below w.heap.size w wr)) (fun _ _ i _ => N - (intOf i).toNat)
  case atStart => exact ⟨0, 0, 0, Nat.zero_le _, rfl, rfl, rfl, ⟨by decide, by decide, by rw [List.take_zero]; decide, by rw [List.take_zero]; decide⟩, Below.refl _ _⟩
  case round =>
    obtain ⟨k, s0, c0, hk, rfl, rfl, rfl, HS, HB⟩ := hrel
    by_cases hlt : k < N
    · have hck : wr.cell? ⟨b, off + k, none⟩ = some (.float .f64 (xs.getD k 0)) := (HB.out.cell (p := ⟨b, off + k, none⟩) hb).trans (HC.out k hlt)
      have HT : Hid (xs.take (k + 1) = xs.take k ++ [xs.getD k 0]) := take_next xs k (by rw [hN.out]; exact hlt)
      have HXK : Hid (xs.getD k 0 < 18446744073709551616) := HX.out _ (mem_get xs k (by rw [hN.out]; exact hlt))
      obtain ⟨x, hx⟩ : ∃ x, Hid (xs.getD k 0 = x) := ⟨_, rfl⟩
      rw [hx.out] at hck HT HXK
      have hkI : (k : Int) < (N : Int) := by omega
      have hk0 : (0 : Int) ≤ (k : Int) := by omega
      have HP : Hid (kahP (xs.take (k + 1)) = kahStep (canonOf s0, canonOf c0) (canonOf x)) := by
        show _ = _
        rw [HT.out, kahP_snoc, HS.out.2.2.1, HS.out.2.2.2]
      have h1 := HS.out.1
      have h2 := HS.out.2.1
      have h3 := HXK.out
      go_wp2
      refine ⟨⟨k + 1, _, _, by omega, rfl, rfl, by go_num, ⟨arF_lt ok_a _ _ _, arF_lt ok_s _ _ _, ?_, ?_⟩, ?_⟩, ?_⟩
      · rw [HP.out]
        simp only [kahStep]
        simp [canon_ar, arF_lt, h1, h2, h3]
      · rw [HP.out]
        simp only [kahStep]
        simp [canon_ar, arF_lt, h1, h2, h3]
      · repeat' (first | exact HB.out | refine bl_ar ?_ _ _ _)
      · simp [intOf]; omega
    · obtain rfl : k = N := by omega
      rw [HCE.out] at HS
      have HR := hid (fun (V : World) => Canon_any s0 V HS.out.1)
      rw [HS.out.2.2.1] at HR
      go_wp2_with fail
      refine (HR.out _).mono ?_
      rintro r w1 ⟨rfl, hb1⟩
      go_wp2
      go_ret
      exact ⟨rfl, HB.out.trans (hb1.mono HB.out.size)⟩
set_option maxHeartbeats 1000000 in
theorem Kah_nil (w : World) : Calls Tryz.prog 17 #[.slice none 0 0] w fun e W' => e = .returned (.float .f64 0) ∧ Below w.heap.size w W' := by
  have HR := hid (fun (V : World) => Canon_any 0 V (by decide))
  rw [show canonOf 0 = 0 by decide] at HR
  go_enter Tryz.func17, Tryz.ntmps17
  go_wp2_with fail
  go_loopw [3, 4, 11] (fun s c i wr => s = .float .f64 0 ∧ c = .float .f64 0 ∧ i = .int .i64 0 ∧ wr = w) (fun _ _ _ _ => 0)
  case atStart => exact ⟨rfl, rfl, rfl, rfl⟩
  case round =>
    obtain ⟨rfl, rfl, rfl, rfl⟩ := hrel
    go_wp2_with fail
    refine (HR.out _).mono ?_
    rintro r w1 ⟨rfl, hb1⟩
    go_wp2
    go_ret
    exact ⟨rfl, hb1⟩
theorem Kah_any (a : Option Addr) (len cap : Nat) (xs : List Nat) (hx : ∀ x ∈ xs, x < 18446744073709551616) (hreach : xs.length ≤ 17592186043904) (w : World) (hI : FltAt w.heap.size w (.slice a len cap) xs) :
    Calls Tryz.prog 17 #[.slice a len cap] w fun e W' => e = .returned (.float .f64 (kahC xs)) ∧ Below w.heap.size w W' := by
  rcases hI with ⟨h1, rfl⟩ | ⟨b, off, c, h1, hb, hc⟩
  · cases h1
    have := Kah_nil w
    rw [show kahC [] = 0 by decide +kernel]
    exact this
  · cases h1
    exact Kah_some b off cap xs hx hreach w hb hc
set_option maxHeartbeats 4000000 in
theorem rKah_some (b off cap : Nat) (xs : List Nat) (hx : ∀ x ∈ xs, x < 18446744073709551616) (hreach : xs.length ≤ 17592186043904) (w : World) (hb : b < w.heap.size) (hc : ∀ j, j < xs.length → w.cell? ⟨b, off + j, none⟩ = some (.float .f64 (xs.getD j 0))) :
    Calls Tryz.prog 18 #[.slice (some ⟨b, off, none⟩) xs.length cap] w fun e W' => e = .returned (.float .f64 (kahC xs)) ∧ Below w.heap.size w W' := by
  have r1 := ar_run .add ok_a
  have r2 := ar_run .sub ok_s
  have HX := hid hx
  have HC := hid hc
  have HCE := hid (List.take_length (l := xs))
  clear hx hc
  obtain ⟨N, hN⟩ : ∃ N, Hid (xs.length = N) := ⟨_, rfl⟩
  rw [hN.out] at hreach HC HCE ⊢
  go_enter Tryz.func18, Tryz.ntmps18
  go_wp2_with fail
  go_loopw [3, 4, 11] (fun s c i wr => ∃ k s0 c0 : Nat, k ≤ N ∧ s = .float .f64 s0 ∧ c = .float .f64 c0 ∧ i = .int .i64 k ∧ Hid (s0 < 18446744073709551616 ∧ c0 < 18446744073709551616 ∧ canonOf s0 = (kahP (xs.take k)).1 ∧ canonOf c0 = (kahP (xs.take k)).2) ∧ Hid (Below w.heap.size w wr)) (fun _ _ i _ => N - (intOf i).toNat)
  case atStart => exact ⟨0, 0, 0, Nat.zero_le _, rfl, rfl, rfl, ⟨by decide, by decide, by rw [List.take_zero]; decide, by rw [List.take_zero]; decide⟩, Below.refl _ _⟩
  case round =>
    obtain ⟨k, s0, c0, hk, rfl, rfl, rfl, HS, HB⟩ := hrel
    by_cases hlt : k < N
    · have hck : wr.cell? ⟨b, off + k, none⟩ = some (.float .f64 (xs.getD k 0)) := (HB.out.cell (p := ⟨b, off + k, none⟩) hb).trans (HC.out k hlt)
      have HT : Hid (xs.take (k + 1) = xs.take k ++ [xs.getD k 0]) := take_next xs k (by rw [hN.out]; exact hlt)
      have HXK : Hid (xs.getD k 0 < 18446744073709551616) := HX.out _ (mem_get xs k (by rw [hN.out]; exact hlt))
      obtain ⟨x, hx⟩ : ∃ x, Hid (xs.getD k 0 = x) := ⟨_, rfl⟩
      rw [hx.out] at hck HT HXK
      have hkI : (k : Int) < (N : Int) := by omega
      have hk0 : (0 : Int) ≤ (k : Int) := by omega
      have HP : Hid (kahP (xs.take (k + 1)) = kahStep (canonOf s0, canonOf c0) (canonOf x)) := by
        show _ = _
        rw [HT.out, kahP_snoc, HS.out.2.2.1, HS.out.2.2.2]
      have h1 := HS.out.1
      have h2 := HS.out.2.1
      have h3 := HXK.out
      go_wp2
      refine ⟨⟨k + 1, _, _, by omega, rfl, rfl, by go_num, ⟨arF_lt ok_a _ _ _, arF_lt ok_s _ _ _, ?_, ?_⟩, ?_⟩, ?_⟩
      · rw [HP.out]
        simp only [kahStep]
        simp [canon_ar, arF_lt, h1, h2, h3]
      · rw [HP.out]
        simp only [kahStep]
        simp [canon_ar, arF_lt, h1, h2, h3]
      · repeat' (first | exact HB.out | refine bl_ar ?_ _ _ _)
      · simp [intOf]; omega
    · obtain rfl : k = N := by omega
      rw [HCE.out] at HS
      have HR := hid (fun (V : World) => rcanonS_any s0 V HS.out.1)
      rw [HS.out.2.2.1] at HR
      go_wp2_with fail
      refine (HR.out _).mono ?_
      rintro r w1 ⟨rfl, rfl⟩
      go_wp2
      go_ret
      exact ⟨rfl, HB.out⟩
set_option maxHeartbeats 1000000 in
theorem rKah_nil (w : World) : Calls Tryz.prog 18 #[.slice none 0 0] w fun e W' => e = .returned (.float .f64 0) ∧ Below w.heap.size w W' := by
  have HR := hid (fun (V : World) => rcanonS_any 0 V (by decide))
  rw [show canonOf 0 = 0 by decide] at HR
  go_enter Tryz.func18, Tryz.ntmps18
  go_wp2_with fail
  go_loopw [3, 4, 11] (fun s c i wr => s = .float .f64 0 ∧ c = .float .f64 0 ∧ i = .int .i64 0 ∧ wr = w) (fun _ _ _ _ => 0)
  case atStart => exact ⟨rfl, rfl, rfl, rfl⟩
  case round =>
    obtain ⟨rfl, rfl, rfl, rfl⟩ := hrel
    go_wp2_with fail
    refine (HR.out _).mono ?_
    rintro r w1 ⟨rfl, rfl⟩
    go_wp2
    go_ret
    exact ⟨rfl, Below.refl _ _⟩
theorem rKah_any (a : Option Addr) (len cap : Nat) (xs : List Nat) (hx : ∀ x ∈ xs, x < 18446744073709551616) (hreach : xs.length ≤ 17592186043904) (w : World) (hI : FltAt w.heap.size w (.slice a len cap) xs) :
    Calls Tryz.prog 18 #[.slice a len cap] w fun e W' => e = .returned (.float .f64 (kahC xs)) ∧ Below w.heap.size w W' := by
  rcases hI with ⟨h1, rfl⟩ | ⟨b, off, c, h1, hb, hc⟩
  · cases h1
    have := rKah_nil w
    rw [show kahC [] = 0 by decide +kernel]
    exact this
  · cases h1
    exact rKah_some b off cap xs hx hreach w hb hc
end Go.Proofs.YtehnkgonhgjeiaaGreatDoor

namespace Go.Proofs.YtehnkgonhgjeiaaGreatDoor
open Go.RowKit Go.IntWalk

/-- The greatest power of 2 below n. -/
def halfN (n : Nat) : Nat := 2 ^ (bitLen (n - 1) - 1)
theorem half_spec (n : Nat) (h : 2 ≤ n) : 1 ≤ halfN n ∧ halfN n < n ∧ n ≤ 2 * halfN n := by
  have h1 := (bitLen_spec (n - 1)).1
  have h2 := (bitLen_spec (n - 1)).2 (by omega)
  have h3 : 1 ≤ bitLen (n - 1) := by unfold bitLen; rw [if_neg (by omega)]; omega
  have h4 : 2 ^ bitLen (n - 1) = 2 * 2 ^ (bitLen (n - 1) - 1) := by
    obtain ⟨k, hk⟩ : ∃ k, bitLen (n - 1) = k + 1 := ⟨bitLen (n - 1) - 1, by omega⟩
    rw [hk, Nat.add_sub_cancel, Nat.pow_succ, Nat.mul_comm]
  unfold halfN
  have := Nat.two_pow_pos (bitLen (n - 1) - 1)
  omega
theorem half_unique (n j : Nat) (h : 2 ≤ n) (h1 : 2 ^ j < n) (h2 : n ≤ 2 * 2 ^ j) : 2 ^ j = halfN n := by
  obtain ⟨a, b, c⟩ := half_spec n h
  unfold halfN at *
  rcases Nat.lt_trichotomy j (bitLen (n - 1) - 1) with k | k | k
  · have := Nat.pow_le_pow_right (show 0 < 2 by decide) (show j + 1 ≤ bitLen (n - 1) - 1 from k)
    rw [Nat.pow_succ] at this
    omega
  · rw [k]
  · have := Nat.pow_le_pow_right (show 0 < 2 by decide) (show bitLen (n - 1) - 1 + 1 ≤ j from k)
    rw [Nat.pow_succ] at this
    omega
/-- The sum by halves, of canonical numbers; the first number bounds the length. -/
def pairN : Nat → List Nat → Nat
  | 0, _ => 0
  | f + 1, xs => if xs.length = 0 then 0 else if xs.length = 1 then canonOf (xs.getD 0 0) else caf .add (pairN f (xs.take (halfN xs.length))) (pairN f (xs.drop (halfN xs.length)))
theorem pairN_lt : ∀ (f : Nat) (xs : List Nat), (∀ x ∈ xs, x < 18446744073709551616) → pairN f xs < 18446744073709551616 ∧ canonOf (pairN f xs) = pairN f xs
  | 0, _, _ => by unfold pairN; decide
  | f + 1, xs, hx => by
    unfold pairN
    split
    · decide
    · split
      · exact ⟨canon_lt (hx _ (mem_get xs 0 (by omega))), canon_twice _⟩
      · exact ⟨caf_lt _ ok_a _ _, caf_can _ _ _⟩
theorem get_drop (xs : List Nat) (h j : Nat) : (xs.drop h).getD j 0 = xs.getD (h + j) 0 := by
  rw [List.getD_eq_getElem?_getD, List.getD_eq_getElem?_getD, List.getElem?_drop]
theorem half_le (L h n : Nat) (hh : h = 2 ^ L) (h1 : h < n) (hn : n ≤ 17592186043904) : L ≤ 45 := by
  apply Classical.byContradiction
  intro c
  have h46 : 2 ^ 46 ≤ 2 ^ L := Nat.pow_le_pow_right (by decide) (by omega)
  have e46 : (2 : Nat) ^ 46 = 70368744177664 := by decide
  rw [e46, ← hh] at h46
  omega
theorem pow45 (L : Nat) (h : L ≤ 45) : 2 ^ L ≤ 35184372088832 := by
  have := Nat.pow_le_pow_right (show 0 < 2 by decide) h
  have e45 : (2 : Nat) ^ 45 = 35184372088832 := by decide
  rw [e45] at this
  exact this
theorem shl_one (L h : Nat) (hL : L ≤ 45) (hh : h = 2 ^ L) : Op.shift .shl .i64 1 .i64 (L : Int) = pure (.int .i64 ((h : Nat) : Int)) := by
  have hb : h ≤ 35184372088832 := by rw [hh]; exact pow45 L hL
  have h64 : (L : Int) ≤ ((IntKind.i64.bits : Nat) : Int) := by
    show (L : Int) ≤ ((64 : Nat) : Int)
    omega
  rw [shift_shl .i64 .i64 1 (L : Int) (by omega) h64]
  have e : (1 : Int) * 2 ^ (L : Int).toNat = ((h : Nat) : Int) := by
    rw [Int.one_mul, Int.toNat_natCast, hh, Int.natCast_pow]
    rfl
  rw [e, IntWalk.i64_in _ (by omega)]
set_option maxHeartbeats 400000 in
theorem blen_any (x : Nat) (w : World) (hx : x < 18446744073709551616) : Calls Tryz.prog 59 #[.int .u64 x] w fun r w' => r = .returned (.int .i64 (bitLen x)) ∧ w' = w := by
  have H := hid (fun W => len_any x W hx)
  clear hx
  go_enter Tryz.func59, Tryz.ntmps59
  go_wp2_with fail
  refine (H.out _).mono ?_
  rintro r w1 ⟨rfl, rfl⟩
  go_wp2
  go_ret
  exact ⟨rfl, rfl⟩
set_option maxRecDepth 4000 in
set_option maxHeartbeats 4000000 in
theorem Pairs_fuel : ∀ (f : Nat) (xs : List Nat) (b off n cap : Nat) (w : World), xs.length = n → n ≤ f → n ≤ 17592186043904 → n ≤ cap → cap ≤ 9223372036854775807 → (∀ x ∈ xs, x < 18446744073709551616) → b < w.heap.size → (∀ j, j < n → w.cell? ⟨b, off + j, none⟩ = some (.float .f64 (xs.getD j 0))) →
    Calls Tryz.prog 15 #[.slice (some ⟨b, off, none⟩) n cap] w fun r w' => r = .returned (.float .f64 (pairN f xs)) ∧ Below w.heap.size w w'
  | 0, xs, b, off, n, cap, w, hl, hf, hn, hcap, hcap2, hx, hb, hc => by
    obtain rfl : n = 0 := by omega
    clear hx hb hc hl
    go_enter Tryz.func15, Tryz.ntmps15
    go_wp2
    go_ret
    exact ⟨rfl, Below.refl _ _⟩
  | f + 1, xs, b, off, n, cap, w, hl, hf, hn, hcap, hcap2, hx, hb, hc => by
    by_cases h0 : n = 0
    · subst h0
      have hp : pairN (f + 1) xs = 0 := by unfold pairN; rw [if_pos hl]
      rw [hp]
      clear hx hb hc hl hp
      go_enter Tryz.func15, Tryz.ntmps15
      go_wp2
      go_ret
      exact ⟨rfl, Below.refl _ _⟩
    by_cases h1 : n = 1
    · subst h1
      have hp : pairN (f + 1) xs = canonOf (xs.getD 0 0) := by unfold pairN; rw [if_neg (by omega), if_pos hl]
      rw [hp]
      have hc0 := hc 0 (by decide)
      rw [Nat.add_zero] at hc0
      have HC := hid (fun W => Canon_any (xs.getD 0 0) W (hx _ (mem_get xs 0 (by omega))))
      obtain ⟨x, hxx⟩ : ∃ x, Hid (xs.getD 0 0 = x) := ⟨_, rfl⟩
      rw [hxx.out] at hc0 HC ⊢
      clear hx hb hc hl hp
      go_enter Tryz.func15, Tryz.ntmps15
      go_wp2_with fail
      refine (HC.out _).mono ?_
      rintro r w1 ⟨rfl, hb1⟩
      go_wp2
      go_ret
      exact ⟨rfl, hb1⟩
    obtain ⟨s1, s2, s3⟩ := half_spec n (by omega)
    have hp : pairN (f + 1) xs = caf .add (pairN f (xs.take (halfN n))) (pairN f (xs.drop (halfN n))) := by
      show (if xs.length = 0 then 0 else if xs.length = 1 then _ else _) = _
      rw [if_neg (by omega), if_neg (by omega), hl]
    rw [hp]
    have hxt : ∀ x ∈ xs.take (halfN n), x < 18446744073709551616 := fun x h => hx x (List.mem_of_mem_take h)
    have hxd : ∀ x ∈ xs.drop (halfN n), x < 18446744073709551616 := fun x h => hx x (List.mem_of_mem_drop h)
    have HI1 : Hid (∀ W, Hid (Below w.heap.size w W) → Calls Tryz.prog 15 #[.slice (some ⟨b, off, none⟩) (halfN n) cap] W fun r w' => r = .returned (.float .f64 (pairN f (xs.take (halfN n)))) ∧ Below W.heap.size W w') := fun W hW => Pairs_fuel f (xs.take (halfN n)) b off (halfN n) cap W (by rw [List.length_take]; omega) (by omega) (by omega) (by omega) hcap2 hxt (Nat.lt_of_lt_of_le hb hW.out.size) (fun j hj => by rw [hW.out.cell (p := ⟨b, off + j, none⟩) hb, hc j (by omega), get_take xs _ j hj])
    have HI2 : Hid (∀ W, Hid (Below w.heap.size w W) → Calls Tryz.prog 15 #[.slice (some ⟨b, off + halfN n, none⟩) (n - halfN n) (cap - halfN n)] W fun r w' => r = .returned (.float .f64 (pairN f (xs.drop (halfN n)))) ∧ Below W.heap.size W w') := fun W hW => Pairs_fuel f (xs.drop (halfN n)) b (off + halfN n) (n - halfN n) (cap - halfN n) W (by rw [List.length_drop]; omega) (by omega) (by omega) (by omega) (by omega) hxd (Nat.lt_of_lt_of_le hb hW.out.size) (fun j hj => by rw [hW.out.cell (p := ⟨b, off + halfN n + j, none⟩) hb, Nat.add_assoc, hc (halfN n + j) (by omega), get_drop])
    have HCN : Hid (∀ W u, Calls Tryz.prog 58 #[.float .f64 (arF .add (pairN f (xs.take (halfN n))) (pairN f (xs.drop (halfN n))) u)] W fun r w' => r = .returned (.float .f64 (caf .add (pairN f (xs.take (halfN n))) (pairN f (xs.drop (halfN n))))) ∧ Below W.heap.size W w') := fun W u => by
      have := Canon_any (arF .add (pairN f (xs.take (halfN n))) (pairN f (xs.drop (halfN n))) u) W (arF_lt ok_a _ _ _)
      rw [canon_ar ok_a _ _ _ (pairN_lt f _ hxt).1 (pairN_lt f _ hxd).1, (pairN_lt f _ hxt).2, (pairN_lt f _ hxd).2] at this
      exact this
    obtain ⟨P1, hP1⟩ : ∃ X, Hid (pairN f (xs.take (halfN n)) = X) := ⟨_, rfl⟩
    obtain ⟨P2, hP2⟩ : ∃ X, Hid (pairN f (xs.drop (halfN n)) = X) := ⟨_, rfl⟩
    rw [hP1.out] at HI1 HCN ⊢
    rw [hP2.out] at HI2 HCN ⊢
    have HBL := hid (fun W => blen_any (n - 1) W (by omega))
    obtain ⟨L, hL⟩ : ∃ L : Nat, Hid (bitLen (n - 1) = L + 1) := ⟨bitLen (n - 1) - 1, by
      show bitLen (n - 1) = _
      have : 1 ≤ bitLen (n - 1) := by unfold bitLen; rw [if_neg (by omega)]; omega
      omega⟩
    have hhL : halfN n = 2 ^ L := by unfold halfN; rw [hL.out, Nat.add_sub_cancel]
    rw [hL.out] at HBL
    obtain ⟨h, hh⟩ : ∃ h, Hid (halfN n = h) := ⟨_, rfl⟩
    rw [hh.out] at HI1 HI2 hhL s1 s2 s3
    have q1 : (n : Int) - 1 = ((n - 1 : Nat) : Int) := by omega
    obtain ⟨m, hm⟩ : ∃ m, Hid (n - 1 = m) := ⟨_, rfl⟩
    rw [hm.out] at q1 HBL
    have hmb : m ≤ 17592186043904 := by have := hm.out; omega
    have q2 : IntKind.i64.wrap ((n : Int) - 1) = (m : Int) := by rw [q1, IntWalk.i64_in _ (by omega)]
    have q3 : IntKind.u64.wrap (m : Int) = (m : Int) := by rw [IntKind.wrap_u64]; omega
    have hLb : L ≤ 45 := half_le L h n hhL s2 hn
    have q4 : wrap64 (L : Int) = (L : Int) := by unfold wrap64; omega
    have q5 := shl_one L h hLb hhL
    have q0 : ((n : Int) == 0) = false := by simp; omega
    have q00 : ((n : Int) == 1) = false := by simp; omega
    have HQ0 : Hid (Below w.heap.size w w.drew) := (Below.refl _ _).drew
    have HKS : Hid (∀ W, Hid (Below w.heap.size w W) → True ∧ Hid (Below w.heap.size w W)) := fun W hW => ⟨trivial, hW⟩
    clear hx hb hc hl hp hxt hxd
    go_enter Tryz.func15, Tryz.ntmps15
    go_wp2_with fail
    refine (HBL.out _).mono ?_
    rintro r w9 ⟨rfl, hw9⟩
    obtain rfl := hw9.symm
    clear hw9
    have j1 : (h : Int) ≤ (n : Int) := by omega
    have j2 : (h : Int) ≤ (cap : Int) := by omega
    have j3 : (0 : Int) ≤ (h : Int) := by omega
    have j4 : (n : Int) ≤ (cap : Int) := by omega
    have j5 : h ≤ n := by omega
    have j6 : h ≤ cap := by omega
    have j7 : ¬ cap = h := by omega
    have r1 := ar_run .add ok_a
    clear hhL hmb hLb
    go_wp2_with fail
    refine wp_region_held_drew (S := fun W => True ∧ Hid (Below w.heap.size w W)) (by kernel_rfl) (HKS.out _ HQ0) (fun hHeld => ?_)
    -- REGION1
    refine take_at 0 21 (.slice (some ⟨b, off, none⟩) n cap) rfl rfl (by kernel_rfl) (by kernel_rfl) (by kernel_rfl) (fun _ _ _ h => h) (Or.inl ⟨by rfl, fun w hSw => by (try dsimp only at hSw); go_simp⟩) (by assumption) ?_
    simp only [Act.put, List.setIfInBounds_toArray, List.set_cons_zero, List.set_cons_succ]
    refine take_at 1 22 (.int .i64 (h : Nat)) rfl rfl (by kernel_rfl) (by kernel_rfl) (by kernel_rfl) (fun _ _ _ h => h) (Or.inl ⟨by rfl, fun w hSw => by (try dsimp only at hSw); go_simp⟩) (by assumption) ?_
    simp only [Act.put, List.setIfInBounds_toArray, List.set_cons_zero, List.set_cons_succ]
    refine take_at 2 23 (.slice (some ⟨b, off, none⟩) h cap) rfl rfl (by kernel_rfl) (by kernel_rfl) (by kernel_rfl) (fun _ _ _ h => h) (Or.inl ⟨by rfl, fun w hSw => by (try dsimp only at hSw); go_simp⟩) (by assumption) ?_
    simp only [Act.put, List.setIfInBounds_toArray, List.set_cons_zero, List.set_cons_succ]
    refine take_at 4 25 (.slice (some ⟨b, off, none⟩) n cap) rfl rfl (by kernel_rfl) (by kernel_rfl) (by kernel_rfl) (fun _ _ _ h => h) (Or.inl ⟨by rfl, fun w hSw => by (try dsimp only at hSw); go_simp⟩) (by assumption) ?_
    simp only [Act.put, List.setIfInBounds_toArray, List.set_cons_zero, List.set_cons_succ]
    refine take_at 5 26 (.int .i64 (h : Nat)) rfl rfl (by kernel_rfl) (by kernel_rfl) (by kernel_rfl) (fun _ _ _ h => h) (Or.inl ⟨by rfl, fun w hSw => by (try dsimp only at hSw); go_simp⟩) (by assumption) ?_
    simp only [Act.put, List.setIfInBounds_toArray, List.set_cons_zero, List.set_cons_succ]
    refine take_at 6 27 (.slice (some ⟨b, off + h, none⟩) (n - h) (cap - h)) rfl rfl (by kernel_rfl) (by kernel_rfl) (by kernel_rfl) (fun _ _ _ h => h) (Or.inl ⟨by rfl, fun w hSw => by (try dsimp only at hSw); go_simp⟩) (by assumption) ?_
    simp only [Act.put, List.setIfInBounds_toArray, List.set_cons_zero, List.set_cons_succ]
    refine wpAnyH_ready (rs := [3]) (by kernel_rfl) (by simp) ?_
    refine AllReadyH.cons (o := _) rfl (fun K hK => ?_) AllReadyH.nil
    go_simp
    refine (HI1.out _ HQ0).mono ?_
    rintro r u1 ⟨rfl, hbq⟩
    have HG1 : Hid (Below w.heap.size w u1) := HQ0.out.trans (hbq.mono HQ0.out.size)
    clear hbq
    go_wp2_with fail
    refine hK.out _ _ (HKS.out _ HG1) (fun hHeld1 => ?_)
    clear hK K
    try simp only [Act.put, List.setIfInBounds_toArray, List.set_cons_zero, List.set_cons_succ]
    refine wpAnyH_ready (rs := [7]) (by kernel_rfl) (by simp) ?_
    refine AllReadyH.cons (o := _) rfl (fun K hK => ?_) AllReadyH.nil
    go_simp
    refine (HI2.out _ HG1).mono ?_
    rintro r u2 ⟨rfl, hbq⟩
    have HG2 : Hid (Below w.heap.size w u2) := HG1.out.trans (hbq.mono HG1.out.size)
    have HG3 : Hid (Below w.heap.size w (arG .add P1 P2 u2)) := bl_ar HG2.out _ _ _
    clear hbq
    go_wp2_with fail
    refine hK.out _ _ (HKS.out _ HG2) (fun hHeld2 => ?_)
    clear hK K
    try simp only [Act.put, List.setIfInBounds_toArray, List.set_cons_zero, List.set_cons_succ]
    refine wpAnyH_ready (rs := [8]) (by kernel_rfl) (by simp) ?_
    refine AllReadyH.cons (o := _) rfl (fun K hK => ?_) AllReadyH.nil
    go_simp
    go_wp2_with fail
    refine hK.out _ _ (HKS.out _ HG3) (fun hHeld3 => ?_)
    clear hK K
    try simp only [Act.put, List.setIfInBounds_toArray, List.set_cons_zero, List.set_cons_succ]
    refine wpAnyH_ready (rs := [9]) (by kernel_rfl) (by simp) ?_
    refine AllReadyH.cons (o := _) rfl (fun K hK => ?_) AllReadyH.nil
    go_simp
    refine (HCN.out _ u2).mono ?_
    rintro r u4 ⟨rfl, hbq⟩
    have HG4 : Hid (Below w.heap.size w u4) := HG3.out.trans (hbq.mono HG3.out.size)
    clear hbq
    go_wp2_with fail
    refine hK.out _ _ (HKS.out _ HG4) (fun hHeld4 => ?_)
    clear hK K
    try simp only [Act.put, List.setIfInBounds_toArray, List.set_cons_zero, List.set_cons_succ]
    refine take_at 10 2 (.float .f64 (caf .add P1 P2)) rfl rfl (by kernel_rfl) (by kernel_rfl) (by kernel_rfl) (fun _ _ _ h => h) (Or.inl ⟨by rfl, fun w hSw => by (try dsimp only at hSw); go_simp⟩) (by assumption) ?_
    simp only [Act.put, List.setIfInBounds_toArray, List.set_cons_zero, List.set_cons_succ]
    refine wpAnyH_done (by kernel_rfl) ?_ _
    -- END1
    go_wp2
    go_ret
    exact ⟨rfl, HG4.out⟩
-- REGION2
-- END2
end Go.Proofs.YtehnkgonhgjeiaaGreatDoor

namespace Go.Proofs.YtehnkgonhgjeiaaGreatDoor
open Go.RowKit Go.IntWalk

set_option maxRecDepth 4000 in
set_option maxHeartbeats 4000000 in
theorem rPairs_fuel : ∀ (f : Nat) (xs : List Nat) (b off n cap : Nat) (w : World), xs.length = n → n ≤ f → n ≤ 17592186043904 → n ≤ cap → cap ≤ 9223372036854775807 → (∀ x ∈ xs, x < 18446744073709551616) → b < w.heap.size → (∀ j, j < n → w.cell? ⟨b, off + j, none⟩ = some (.float .f64 (xs.getD j 0))) →
    Calls Tryz.prog 16 #[.slice (some ⟨b, off, none⟩) n cap] w fun r w' => r = .returned (.float .f64 (pairN f xs)) ∧ Below w.heap.size w w'
  | 0, xs, b, off, n, cap, w, hl, hf, hn, hcap, hcap2, hx, hb, hc => by
    obtain rfl : n = 0 := by omega
    clear hx hb hc hl
    go_enter Tryz.func16, Tryz.ntmps16
    go_wp2
    go_ret
    exact ⟨rfl, Below.refl _ _⟩
  | f + 1, xs, b, off, n, cap, w, hl, hf, hn, hcap, hcap2, hx, hb, hc => by
    by_cases h0 : n = 0
    · subst h0
      have hp : pairN (f + 1) xs = 0 := by unfold pairN; rw [if_pos hl]
      rw [hp]
      clear hx hb hc hl hp
      go_enter Tryz.func16, Tryz.ntmps16
      go_wp2
      go_ret
      exact ⟨rfl, Below.refl _ _⟩
    by_cases h1 : n = 1
    · subst h1
      have hp : pairN (f + 1) xs = canonOf (xs.getD 0 0) := by unfold pairN; rw [if_neg (by omega), if_pos hl]
      rw [hp]
      have hc0 := hc 0 (by decide)
      rw [Nat.add_zero] at hc0
      have HC := hid (fun W => rcanonS_any (xs.getD 0 0) W (hx _ (mem_get xs 0 (by omega))))
      obtain ⟨x, hxx⟩ : ∃ x, Hid (xs.getD 0 0 = x) := ⟨_, rfl⟩
      rw [hxx.out] at hc0 HC ⊢
      clear hx hb hc hl hp
      go_enter Tryz.func16, Tryz.ntmps16
      go_wp2_with fail
      refine (HC.out _).mono ?_
      rintro r w1 ⟨rfl, rfl⟩
      go_wp2
      go_ret
      exact ⟨rfl, Below.refl _ _⟩
    obtain ⟨s1, s2, s3⟩ := half_spec n (by omega)
    have hp : pairN (f + 1) xs = caf .add (pairN f (xs.take (halfN n))) (pairN f (xs.drop (halfN n))) := by
      show (if xs.length = 0 then 0 else if xs.length = 1 then _ else _) = _
      rw [if_neg (by omega), if_neg (by omega), hl]
    rw [hp]
    have hxt : ∀ x ∈ xs.take (halfN n), x < 18446744073709551616 := fun x h => hx x (List.mem_of_mem_take h)
    have hxd : ∀ x ∈ xs.drop (halfN n), x < 18446744073709551616 := fun x h => hx x (List.mem_of_mem_drop h)
    have HI1 : Hid (∀ W, Hid (Below w.heap.size w W) → Calls Tryz.prog 16 #[.slice (some ⟨b, off, none⟩) (halfN n) cap] W fun r w' => r = .returned (.float .f64 (pairN f (xs.take (halfN n)))) ∧ Below W.heap.size W w') := fun W hW => rPairs_fuel f (xs.take (halfN n)) b off (halfN n) cap W (by rw [List.length_take]; omega) (by omega) (by omega) (by omega) hcap2 hxt (Nat.lt_of_lt_of_le hb hW.out.size) (fun j hj => by rw [hW.out.cell (p := ⟨b, off + j, none⟩) hb, hc j (by omega), get_take xs _ j hj])
    have HI2 : Hid (∀ W, Hid (Below w.heap.size w W) → Calls Tryz.prog 16 #[.slice (some ⟨b, off + halfN n, none⟩) (n - halfN n) (cap - halfN n)] W fun r w' => r = .returned (.float .f64 (pairN f (xs.drop (halfN n)))) ∧ Below W.heap.size W w') := fun W hW => rPairs_fuel f (xs.drop (halfN n)) b (off + halfN n) (n - halfN n) (cap - halfN n) W (by rw [List.length_drop]; omega) (by omega) (by omega) (by omega) (by omega) hxd (Nat.lt_of_lt_of_le hb hW.out.size) (fun j hj => by rw [hW.out.cell (p := ⟨b, off + halfN n + j, none⟩) hb, Nat.add_assoc, hc (halfN n + j) (by omega), get_drop])
    have HCN : Hid (∀ W u, Calls Tryz.prog 57 #[.float .f64 (arF .add (pairN f (xs.take (halfN n))) (pairN f (xs.drop (halfN n))) u)] W fun r w' => r = .returned (.float .f64 (caf .add (pairN f (xs.take (halfN n))) (pairN f (xs.drop (halfN n))))) ∧ w' = W) := fun W u => by
      have := rcanonS_any (arF .add (pairN f (xs.take (halfN n))) (pairN f (xs.drop (halfN n))) u) W (arF_lt ok_a _ _ _)
      rw [canon_ar ok_a _ _ _ (pairN_lt f _ hxt).1 (pairN_lt f _ hxd).1, (pairN_lt f _ hxt).2, (pairN_lt f _ hxd).2] at this
      exact this
    obtain ⟨P1, hP1⟩ : ∃ X, Hid (pairN f (xs.take (halfN n)) = X) := ⟨_, rfl⟩
    obtain ⟨P2, hP2⟩ : ∃ X, Hid (pairN f (xs.drop (halfN n)) = X) := ⟨_, rfl⟩
    rw [hP1.out] at HI1 HCN ⊢
    rw [hP2.out] at HI2 HCN ⊢
    have HU := hid (half_unique n)
    obtain ⟨h, hh⟩ : ∃ h, Hid (halfN n = h) := ⟨_, rfl⟩
    rw [hh.out] at HI1 HI2 s1 s2 s3
    have q0 : ((n : Int) == 0) = false := by simp; omega
    have q00 : ((n : Int) == 1) = false := by simp; omega
    have HQ0 : Hid (Below w.heap.size w w.drew) := (Below.refl _ _).drew
    have HKS : Hid (∀ W, Hid (Below w.heap.size w W) → True ∧ Hid (Below w.heap.size w W)) := fun W hW => ⟨trivial, hW⟩
    clear hx hb hc hl hp hxt hxd
    go_enter Tryz.func16, Tryz.ntmps16
    go_wp2_with fail
    go_loopw [3] (fun v wr => ∃ i : Nat, v = .int .i64 ((2 ^ i : Nat) : Int) ∧ Hid (2 ^ i < n) ∧ wr = w) (fun v _ => n - (intOf v).toNat)
    case atStart => exact ⟨0, rfl, hid (show 2 ^ 0 < n by omega), rfl⟩
    case round =>
    obtain ⟨i, rfl, HLT, rfl⟩ := hrel
    obtain ⟨g, hg⟩ : ∃ g : Nat, Hid ((2 : Nat) ^ i = g) := ⟨_, rfl⟩
    have hg1 : g < n := by rw [← hg.out]; exact HLT.out
    have hg0 : 1 ≤ g := by rw [← hg.out]; exact Nat.two_pow_pos i
    rw [hg.out]
    obtain ⟨d, hd⟩ : ∃ d : Nat, Hid (2 * g = d) := ⟨_, rfl⟩
    have hd0 : 2 * g = d := hd.out
    have hdb : d ≤ 35184372087808 := by omega
    have e2 : IntKind.i64.wrap ((2 : Int) * (g : Int)) = (d : Int) := by rw [IntWalk.i64_in _ (by omega)]; omega
    have e3 : IntKind.i64.wrap ((g : Int) * 2) = (d : Int) := by rw [IntWalk.i64_in _ (by omega)]; omega
    have e5 : (2 : Int) * (g : Int) = (d : Int) := by omega
    have e6 : (g : Int) * 2 = (d : Int) := by omega
    have e7 : IntKind.i64.wrap (d : Int) = (d : Int) := by rw [IntWalk.i64_in _ (by omega)]
    have HGP : Hid (2 ^ (i + 1) = d) := by show 2 ^ (i + 1) = d; rw [Nat.pow_succ, hg.out]; omega
    have hd2 := hid hd0
    by_cases hlt : d < n
    · have e4 : (d : Int) < (n : Int) := by omega
      clear hd0
      go_wp2
      refine ⟨⟨i + 1, ?_, ?_, ?_⟩, ?_⟩
      · rw [HGP.out]
      · show 2 ^ (i + 1) < n
        rw [HGP.out]
        exact hlt
      · trivial
      · have := hd2.out
        simp [intOf]
        omega
    · have e4 : ¬ (d : Int) < (n : Int) := by omega
      have hgh : g = h := by rw [← hg.out, ← hh.out]; exact HU.out i (by omega) (by rw [hg.out]; exact hg1) (by rw [hg.out]; omega)
      subst hgh
      clear hd0
      have j1 : (g : Int) ≤ (n : Int) := by omega
      have j2 : (g : Int) ≤ (cap : Int) := by omega
      have j3 : (0 : Int) ≤ (g : Int) := by omega
      have j4 : (n : Int) ≤ (cap : Int) := by omega
      have j5 : g ≤ n := by omega
      have j6 : g ≤ cap := by omega
      have j7 : ¬ cap = g := by omega
      have r1 := ar_run .add ok_a
      go_wp2_with fail
      refine wp_region_held_drew (S := fun W => True ∧ Hid (Below wr.heap.size wr W)) (by kernel_rfl) (HKS.out _ HQ0) (fun hHeld => ?_)
      -- REGION2
      refine take_at 0 21 (.slice (some ⟨b, off, none⟩) n cap) rfl rfl (by kernel_rfl) (by kernel_rfl) (by kernel_rfl) (fun _ _ _ h => h) (Or.inl ⟨by rfl, fun w hSw => by (try dsimp only at hSw); go_simp⟩) (by assumption) ?_
      simp only [Act.put, List.setIfInBounds_toArray, List.set_cons_zero, List.set_cons_succ]
      refine take_at 1 22 (.int .i64 (g : Nat)) rfl rfl (by kernel_rfl) (by kernel_rfl) (by kernel_rfl) (fun _ _ _ h => h) (Or.inl ⟨by rfl, fun w hSw => by (try dsimp only at hSw); go_simp⟩) (by assumption) ?_
      simp only [Act.put, List.setIfInBounds_toArray, List.set_cons_zero, List.set_cons_succ]
      refine take_at 2 23 (.slice (some ⟨b, off, none⟩) g cap) rfl rfl (by kernel_rfl) (by kernel_rfl) (by kernel_rfl) (fun _ _ _ h => h) (Or.inl ⟨by rfl, fun w hSw => by (try dsimp only at hSw); go_simp⟩) (by assumption) ?_
      simp only [Act.put, List.setIfInBounds_toArray, List.set_cons_zero, List.set_cons_succ]
      refine take_at 4 25 (.slice (some ⟨b, off, none⟩) n cap) rfl rfl (by kernel_rfl) (by kernel_rfl) (by kernel_rfl) (fun _ _ _ h => h) (Or.inl ⟨by rfl, fun w hSw => by (try dsimp only at hSw); go_simp⟩) (by assumption) ?_
      simp only [Act.put, List.setIfInBounds_toArray, List.set_cons_zero, List.set_cons_succ]
      refine take_at 5 26 (.int .i64 (g : Nat)) rfl rfl (by kernel_rfl) (by kernel_rfl) (by kernel_rfl) (fun _ _ _ h => h) (Or.inl ⟨by rfl, fun w hSw => by (try dsimp only at hSw); go_simp⟩) (by assumption) ?_
      simp only [Act.put, List.setIfInBounds_toArray, List.set_cons_zero, List.set_cons_succ]
      refine take_at 6 27 (.slice (some ⟨b, off + g, none⟩) (n - g) (cap - g)) rfl rfl (by kernel_rfl) (by kernel_rfl) (by kernel_rfl) (fun _ _ _ h => h) (Or.inl ⟨by rfl, fun w hSw => by (try dsimp only at hSw); go_simp⟩) (by assumption) ?_
      simp only [Act.put, List.setIfInBounds_toArray, List.set_cons_zero, List.set_cons_succ]
      refine wpAnyH_ready (rs := [3]) (by kernel_rfl) (by simp) ?_
      refine AllReadyH.cons (o := _) rfl (fun K hK => ?_) AllReadyH.nil
      go_simp
      refine (HI1.out _ HQ0).mono ?_
      rintro r u1 ⟨rfl, hbq⟩
      have HG1 : Hid (Below wr.heap.size wr u1) := HQ0.out.trans (hbq.mono HQ0.out.size)
      clear hbq
      go_wp2_with fail
      refine hK.out _ _ (HKS.out _ HG1) (fun hHeld1 => ?_)
      clear hK K
      try simp only [Act.put, List.setIfInBounds_toArray, List.set_cons_zero, List.set_cons_succ]
      refine wpAnyH_ready (rs := [7]) (by kernel_rfl) (by simp) ?_
      refine AllReadyH.cons (o := _) rfl (fun K hK => ?_) AllReadyH.nil
      go_simp
      refine (HI2.out _ HG1).mono ?_
      rintro r u2 ⟨rfl, hbq⟩
      have HG2 : Hid (Below wr.heap.size wr u2) := HG1.out.trans (hbq.mono HG1.out.size)
      have HG3 : Hid (Below wr.heap.size wr (arG .add P1 P2 u2)) := bl_ar HG2.out _ _ _
      clear hbq
      go_wp2_with fail
      refine hK.out _ _ (HKS.out _ HG2) (fun hHeld2 => ?_)
      clear hK K
      try simp only [Act.put, List.setIfInBounds_toArray, List.set_cons_zero, List.set_cons_succ]
      refine wpAnyH_ready (rs := [8]) (by kernel_rfl) (by simp) ?_
      refine AllReadyH.cons (o := _) rfl (fun K hK => ?_) AllReadyH.nil
      go_simp
      go_wp2_with fail
      refine hK.out _ _ (HKS.out _ HG3) (fun hHeld3 => ?_)
      clear hK K
      try simp only [Act.put, List.setIfInBounds_toArray, List.set_cons_zero, List.set_cons_succ]
      refine wpAnyH_ready (rs := [9]) (by kernel_rfl) (by simp) ?_
      refine AllReadyH.cons (o := _) rfl (fun K hK => ?_) AllReadyH.nil
      go_simp
      refine (HCN.out _ u2).mono ?_
      rintro r u4 ⟨rfl, hw4⟩
      obtain rfl := hw4
      have HG4 := HG3
      go_wp2_with fail
      refine hK.out _ _ (HKS.out _ HG4) (fun hHeld4 => ?_)
      clear hK K
      try simp only [Act.put, List.setIfInBounds_toArray, List.set_cons_zero, List.set_cons_succ]
      refine take_at 10 2 (.float .f64 (caf .add P1 P2)) rfl rfl (by kernel_rfl) (by kernel_rfl) (by kernel_rfl) (fun _ _ _ h => h) (Or.inl ⟨by rfl, fun w hSw => by (try dsimp only at hSw); go_simp⟩) (by assumption) ?_
      simp only [Act.put, List.setIfInBounds_toArray, List.set_cons_zero, List.set_cons_succ]
      refine wpAnyH_done (by kernel_rfl) ?_ _
      -- END2
      go_wp2
      go_ret
      exact ⟨rfl, HG4.out⟩
end Go.Proofs.YtehnkgonhgjeiaaGreatDoor
