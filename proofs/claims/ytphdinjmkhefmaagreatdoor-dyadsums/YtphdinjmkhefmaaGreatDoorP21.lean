
/- What dyad's compare does. -/
import Derived.Test.YtphdinjmkhefmaaGreatDoorP20
import Derived.Test.YtphdinjmkhefmaaGreatDoorP4
import Derived.Test.YtphdinjmkhefmaaGreatDoorP12
import Derived.Deep.QuietTactic
namespace Go.Proofs.YtphdinjmkhefmaaGreatDoor
open Go.RowKit Go.IntWalk

set_option maxHeartbeats 400000 in
theorem notnan_int (a : Int) (w : World) :
    Calls Tryz.prog 85 #[.int .i64 a] w fun e w' => e = .returned (.bool false) ∧ w' = w := by
  go_enter Tryz.func85, Tryz.ntmps85
  go_wp2
  go_ret
  exact ⟨by simp, rfl⟩
set_option maxHeartbeats 400000 in
theorem notnan_u32 (a : Int) (w : World) :
    Calls Tryz.prog 86 #[.int .u32 a] w fun e w' => e = .returned (.bool false) ∧ w' = w := by
  go_enter Tryz.func86, Tryz.ntmps86
  go_wp2
  go_ret
  exact ⟨by simp, rfl⟩
set_option maxHeartbeats 400000 in
theorem cmp_int (a b : Nat) (w : World) :
    Calls Tryz.prog 55 #[.int .i64 a, .int .i64 b] w fun e w' => e = .returned (.int .i64 (cmpI a b)) ∧ w' = w := by
  rcases Nat.lt_trichotomy a b with h | h | h
  · rw [cmpI_lt h]
    have h1 : (a : Int) < (b : Int) := by omega
    clear h
    go_enter Tryz.func55, Tryz.ntmps55
    go_wp2_with (first | (go_at_call 85; refine (notnan_int _ _).mono ?_; rintro e w' ⟨rfl, rfl⟩))
    go_ret
    exact ⟨rfl, rfl⟩
  · rw [cmpI_eq h]
    subst h
    have h1 : ¬ (a : Int) < (a : Int) := by omega
    go_enter Tryz.func55, Tryz.ntmps55
    go_wp2_with (first | (go_at_call 85; refine (notnan_int _ _).mono ?_; rintro e w' ⟨rfl, rfl⟩))
    go_ret
    exact ⟨rfl, rfl⟩
  · rw [cmpI_gt h]
    have h1 : ¬ (a : Int) < (b : Int) := by omega
    have h2 : (b : Int) < (a : Int) := by omega
    clear h
    go_enter Tryz.func55, Tryz.ntmps55
    go_wp2_with (first | (go_at_call 85; refine (notnan_int _ _).mono ?_; rintro e w' ⟨rfl, rfl⟩))
    go_ret
    exact ⟨rfl, rfl⟩
set_option maxHeartbeats 400000 in
theorem cmp_u32 (a b : Nat) (w : World) :
    Calls Tryz.prog 56 #[.int .u32 a, .int .u32 b] w fun e w' => e = .returned (.int .i64 (cmpI a b)) ∧ w' = w := by
  rcases Nat.lt_trichotomy a b with h | h | h
  · rw [cmpI_lt h]
    have h1 : (a : Int) < (b : Int) := by omega
    clear h
    go_enter Tryz.func56, Tryz.ntmps56
    go_wp2_with (first | (go_at_call 86; refine (notnan_u32 _ _).mono ?_; rintro e w' ⟨rfl, rfl⟩))
    go_ret
    exact ⟨rfl, rfl⟩
  · rw [cmpI_eq h]
    subst h
    have h1 : ¬ (a : Int) < (a : Int) := by omega
    go_enter Tryz.func56, Tryz.ntmps56
    go_wp2_with (first | (go_at_call 86; refine (notnan_u32 _ _).mono ?_; rintro e w' ⟨rfl, rfl⟩))
    go_ret
    exact ⟨rfl, rfl⟩
  · rw [cmpI_gt h]
    have h1 : ¬ (a : Int) < (b : Int) := by omega
    have h2 : (b : Int) < (a : Int) := by omega
    clear h
    go_enter Tryz.func56, Tryz.ntmps56
    go_wp2_with (first | (go_at_call 86; refine (notnan_u32 _ _).mono ?_; rintro e w' ⟨rfl, rfl⟩))
    go_ret
    exact ⟨rfl, rfl⟩
set_option maxHeartbeats 1000000 in
theorem dcompare_nil (a b : Option Addr) (ca cb : Nat) (w : World) :
    Calls Tryz.prog 31 #[.slice a 0 ca, .slice b 0 cb] w fun r w' => r = .returned (.int .i64 0) ∧ w' = w := by
  go_enter Tryz.func31, Tryz.ntmps31
  go_wp2
  refine wp_loop_rounds 1 ?_
  rw [rounds_succ]
  go_wp2
  go_ret
  exact ⟨rfl, rfl⟩
set_option maxHeartbeats 1000000 in
theorem dcompare_same (A B : List Nat) (ba oa bb ob ca cb n : Nat) (w : World) (hA : ∀ i, i < n → w.cell? ⟨ba, oa + i, none⟩ = some (.int .u32 (A.getD i 0))) (hB : ∀ i, i < n → w.cell? ⟨bb, ob + i, none⟩ = some (.int .u32 (B.getD i 0))) (dA : DigL A) (dB : DigL B) (hnA : A.length = n) (hnB : B.length = n) (hn : n ≤ 1000000) :
    Calls Tryz.prog 31 #[.slice (some ⟨ba, oa, none⟩) n ca, .slice (some ⟨bb, ob, none⟩) n cb] w fun r w' => r = .returned (.int .i64 (cmpI (natL A) (natL B))) ∧ Below w.heap.size w w' := by
  have HA := hid hA
  have HB := hid hB
  have HNA := hid hnA
  have HNB := hid hnB
  have HD : Hid (A.drop n = B.drop n) := by
    show A.drop n = B.drop n
    rw [List.drop_eq_nil_of_le (by omega), List.drop_eq_nil_of_le (by omega)]
  obtain ⟨c, hc⟩ : ∃ c, Hid (cmpI (natL A) (natL B) = c) := ⟨_, rfl⟩
  rw [hc.out]
  clear hA hB hnA hnB
  go_enter Tryz.func31, Tryz.ntmps31
  go_wp2
  go_loopw [5] (fun i wr => ∃ (j : Nat), j ≤ n ∧ i = .int .i64 ((j : Int) - 1) ∧ Hid (A.drop j = B.drop j) ∧ Hid (Below w.heap.size w wr)) (fun i _ => (intOf i + 1).toNat)
  case atStart => exact ⟨n, Nat.le_refl _, rfl, HD, Below.refl _ _⟩
  case round =>
    obtain ⟨j, hj, rfl, HE, HBW⟩ := hrel
    by_cases hj0 : j = 0
    · subst hj0
      have hcz : c = 0 := by
        rw [← hc.out]
        have := HE.out
        rw [List.drop_zero, List.drop_zero] at this
        exact cmpI_eq (by rw [this])
      subst hcz
      go_wp2
      go_ret
      exact ⟨rfl, HBW.out⟩
    · obtain ⟨k, rfl⟩ : ∃ k, j = k + 1 := ⟨j - 1, by omega⟩
      have hk1 : ((k + 1 : Nat) : Int) - 1 = (k : Int) := by omega
      have hkI : (k : Int) < (n : Int) := by omega
      have hca : wr.cell? ⟨ba, oa + k, none⟩ = some (.int .u32 (A.getD k 0)) := by
        rw [HBW.out.cell (p := ⟨ba, oa + k, none⟩) (World.block_lt_of_cell? w _ (HA.out k (by omega)))]
        exact HA.out k (by omega)
      have hcb : wr.cell? ⟨bb, ob + k, none⟩ = some (.int .u32 (B.getD k 0)) := by
        rw [HBW.out.cell (p := ⟨bb, ob + k, none⟩) (World.block_lt_of_cell? w _ (HB.out k (by omega)))]
        exact HB.out k (by omega)
      have hcmp := natL_cmp A B dA k (by rw [HNA.out]; omega) (by rw [HNB.out]; omega) HE.out (by rw [HNA.out, HNB.out])
      have hcmp2 := natL_cmp B A dB k (by rw [HNB.out]; omega) (by rw [HNA.out]; omega) HE.out.symm (by rw [HNA.out, HNB.out])
      have hstep := drop_step A B k (by rw [HNA.out]; omega) (by rw [HNB.out]; omega) HE.out
      have hC := hc.out
      obtain ⟨x, hx⟩ : ∃ x, Hid (A.getD k 0 = x) := ⟨_, rfl⟩
      obtain ⟨y, hy⟩ : ∃ y, Hid (B.getD k 0 = y) := ⟨_, rfl⟩
      rw [hx.out] at hca hcmp hcmp2 hstep
      rw [hy.out] at hcb hcmp hcmp2 hstep
      rw [hk1]
      rcases Nat.lt_trichotomy x y with h | h | h
      · have hC2 := cmpI_lt (hcmp h)
        have hxy : cmpI x y = c := by rw [← hC, hC2, cmpI_lt h]
        have hne : ((x : Int) == (y : Int)) = false := by simp; omega
        have HC3 := hid (fun (W : World) => cmp_u32 x y W)
        rw [hxy] at HC3
        clear hcmp hcmp2 hstep h HE hk1 hC2 hC hxy
        go_wp2_with fail
        go_quiet (fail)
        go_wp2_with fail
        go_region_held3 (fun W => W.cell? ⟨ba, oa + k, none⟩ = some (.int .u32 x) ∧ W.cell? ⟨bb, ob + k, none⟩ = some (.int .u32 y)) (go_keep)
          ((go_at_call 56; refine (HC3.out _).mono ?_; rintro r w1 ⟨rfl, rfl⟩))
        go_wp2
        go_ret
        refine ⟨rfl, ?_⟩
        repeat (first | exact HBW.out | refine bl_drewN _ ?_ | refine Below.drew ?_)
      · subst h
        have HS := hid (hstep rfl)
        clear hcmp hcmp2 hstep HE hC
        go_wp2_with fail
        go_quiet (fail)
        go_wp2
        refine ⟨⟨k, by omega, rfl, HS, ?_⟩, by simp [intOf]⟩
        repeat (first | exact HBW.out | refine bl_drewN _ ?_ | refine Below.drew ?_)
      · have hC2 := cmpI_gt (hcmp2 h)
        have hxy : cmpI x y = c := by rw [← hC, hC2, cmpI_gt h]
        have hne : ((x : Int) == (y : Int)) = false := by simp; omega
        have HC3 := hid (fun (W : World) => cmp_u32 x y W)
        rw [hxy] at HC3
        clear hcmp hcmp2 hstep h HE hk1 hC2 hC hxy
        go_wp2_with fail
        go_quiet (fail)
        go_wp2_with fail
        go_region_held3 (fun W => W.cell? ⟨ba, oa + k, none⟩ = some (.int .u32 x) ∧ W.cell? ⟨bb, ob + k, none⟩ = some (.int .u32 y)) (go_keep)
          ((go_at_call 56; refine (HC3.out _).mono ?_; rintro r w1 ⟨rfl, rfl⟩))
        go_wp2
        go_ret
        refine ⟨rfl, ?_⟩
        repeat (first | exact HBW.out | refine bl_drewN _ ?_ | refine Below.drew ?_)
set_option maxHeartbeats 1000000 in
theorem dcompare_any (A B : List Nat) (a b : Option Addr) (ca cb : Nat) (w : World) (hA : MagAt w a A) (hB : MagAt w b B) (dA : DigL A) (dB : DigL B) (cA : CanL A) (cB : CanL B) (hnA : A.length ≤ 1000000) (hnB : B.length ≤ 1000000) :
    Calls Tryz.prog 31 #[.slice a A.length ca, .slice b B.length cb] w fun r w' => r = .returned (.int .i64 (cmpI (natL A) (natL B))) ∧ Below w.heap.size w w' := by
  by_cases hl : A.length = B.length
  · by_cases h0 : B.length = 0
    · rw [hl, h0, cmpI_eq (by rw [List.length_eq_zero_iff.1 h0, List.length_eq_zero_iff.1 (hl.trans h0)])]
      refine (dcompare_nil a b ca cb w).mono ?_
      rintro r w' ⟨rfl, rfl⟩
      exact ⟨rfl, Below.refl _ _⟩
    · obtain ⟨ba, oa, rfl, _, _⟩ := hA 0 (by omega)
      obtain ⟨bb, ob, rfl, _, _⟩ := hB 0 (by omega)
      rw [hl]
      refine dcompare_same A B ba oa bb ob ca cb B.length w (fun i hi => ?_) (fun i hi => ?_) dA dB hl rfl hnB
      · obtain ⟨b', off', e, _, hc⟩ := hA i (by omega)
        cases e
        exact hc
      · obtain ⟨b', off', e, _, hc⟩ := hB i (by omega)
        cases e
        exact hc
  · have hres : cmpI (natL A) (natL B) = cmpI A.length B.length := by
      by_cases hlt : A.length < B.length
      · rw [cmpI_lt (natL_shorter A B dA cB hlt), cmpI_lt hlt]
      · rw [cmpI_gt (natL_shorter B A dB cA (by omega)), cmpI_gt (by omega)]
    rw [hres]
    have HC3 := hid (fun (W : World) => cmp_int A.length B.length W)
    obtain ⟨n, hn⟩ : ∃ n, Hid (A.length = n) := ⟨_, rfl⟩
    obtain ⟨m, hm⟩ : ∃ m, Hid (B.length = m) := ⟨_, rfl⟩
    rw [hn.out, hm.out] at HC3 hl ⊢
    obtain ⟨c, hc⟩ : ∃ c, Hid (cmpI n m = c) := ⟨_, rfl⟩
    rw [hc.out] at HC3 ⊢
    have hne : ((n : Int) == (m : Int)) = false := by simp; omega
    clear hA hB dA dB cA cB hnA hnB hl hres
    go_enter Tryz.func31, Tryz.ntmps31
    go_wp2_with fail
    refine (HC3.out _).mono ?_
    rintro r w1 ⟨rfl, rfl⟩
    go_wp2
    go_ret
    exact ⟨rfl, Below.refl _ _⟩
end Go.Proofs.YtphdinjmkhefmaaGreatDoor

namespace Go.Proofs.YtphdinjmkhefmaaGreatDoor
open Go.RowKit Go.IntWalk

/-- The library's table for words of 32 bits stands in its variable. -/
def Tab32 (w : World) : Prop := ∀ j, j < 32 → w.cell? ⟨1, j, none⟩ = some (.int .u8 (Lib.deBruijn32tab.getD j 0))
theorem Tab32.below {w w' : World} (h : Tab32 w) (hs : 1 < w.heap.size) (hb : Below w.heap.size w w') : Tab32 w' := fun j hj => by rw [hb.cell (p := ⟨1, j, none⟩) hs]; exact h j hj
theorem tz32_key (x a : Nat) (hx : x < 4294967296) (hx0 : x ≠ 0) (hlow : x &&& (4294967296 - x) = a) :
    IntKind.u32.wrap (bits BinOp.and IntKind.u32 (x : Int) (IntKind.u32.wrap (-(x : Int))) * 125613361) / 134217728 = ((a * 125613361 % 4294967296 / 134217728 : Nat) : Int) := by
  have e1 : IntKind.u32.wrap (-(x : Int)) = ((4294967296 - x : Nat) : Int) := by rw [IntKind.wrap_u32]; omega
  rw [e1, u32_and_nat x _ hx (by omega), hlow, IntKind.wrap_u32]
  omega
set_option maxHeartbeats 400000 in
theorem tz32_core (x k idx : Nat) (w : World) (hx0 : ((x : Int) == 0) = false)
    (key : IntKind.u32.wrap (bits BinOp.and IntKind.u32 (x : Int) (IntKind.u32.wrap (-(x : Int))) * 125613361) / 134217728 = (idx : Int))
    (hi : idx < 32) (hk : k < 32) (hcell : w.cell? ⟨1, idx, none⟩ = some (.int .u8 k)) :
    Calls Tryz.prog 57 #[.int .u32 x] w fun e w' => e = .returned (.int .i64 k) ∧ w' = w := by
  have key2 := key
  simp only [IntKind.wrap_u32] at key2
  go_enter Tryz.func57, Tryz.ntmps57
  go_wp2_with (first | simp only [key] | simp only [key2])
  go_ret
  exact ⟨rfl, rfl⟩
def tz32Of (m : Nat) : Nat := Lib.ctz 32 m
theorem tz32_spec (m : Nat) (h0 : m ≠ 0) (h : m < 4294967296) : tz32Of m < 32 ∧ ∃ k, m = 2 ^ tz32Of m * (2 * k + 1) := by
  obtain ⟨k, hk, hl⟩ := Lib.ctzFrom_spec 32 m (by omega) h
  have e : tz32Of m = Lib.ctzFrom 32 m := by simp [tz32Of, Lib.ctz, h0]
  rw [e]
  exact ⟨hl, k, hk⟩
theorem tz32_any (x : Nat) (w : World) (hx : x < 4294967296) (hx0 : x ≠ 0) (hT : Tab32 w) :
    Calls Tryz.prog 57 #[.int .u32 x] w fun e w' => e = .returned (.int .i64 (tz32Of x)) ∧ w' = w := by
  obtain ⟨hlow, hk⟩ := Lib.lowest_bit 32 x hx0 hx
  obtain ⟨hi, htab⟩ := Lib.deBruijn32_at _ hk
  have hcell := hT _ hi
  rw [htab] at hcell
  exact tz32_core x (Lib.ctz 32 x) _ w (by simpa using hx0) (tz32_key x _ hx hx0 hlow) hi hk hcell
set_option maxHeartbeats 400000 in
theorem within_any (e : Int) (w : World) (h1 : -100000 ≤ e) (h2 : e ≤ 100000) :
    Calls Tryz.prog 74 #[.int .i64 e] w fun r w' => r = .returned (.bool true) ∧ w' = w := by
  go_enter Tryz.func74, Tryz.ntmps74
  go_wp2
  go_ret
  exact ⟨rfl, rfl⟩
/-- A dyad that may be. -/
def DyMay (neg : Bool) (L : List Nat) (e : Int) : Prop := (L = [] ∧ neg = false ∧ e = 0) ∨ (L ≠ [] ∧ natL L % 2 = 1 ∧ CanL L ∧ L.length ≤ 2048 ∧ -100000 ≤ e ∧ e ≤ 100000)
set_option maxHeartbeats 1000000 in
theorem May_yes (neg : Bool) (L : List Nat) (a : Option Addr) (cap : Nat) (e : Int) (w : World) (hm : MagAt w a L) (h : DyMay neg L e) :
    Calls Tryz.prog 47 #[.agg #[.bool neg, .slice a L.length cap, .int .i64 e]] w fun r w' => r = .returned (.bool true) ∧ Below w.heap.size w w' := by
  rcases h with ⟨rfl, rfl, rfl⟩ | ⟨h0, hodd, hcan, hlen, he1, he2⟩
  · show Calls Tryz.prog 47 #[.agg #[.bool false, .slice a 0 cap, .int .i64 0]] w _
    clear hm
    go_enter Tryz.func47, Tryz.ntmps47
    go_wp2
    go_ret
    exact ⟨rfl, (Below.refl _ _).alloc (Nat.le_refl _) _⟩
  · have hl0 : L.length ≠ 0 := fun c => h0 (List.length_eq_zero_iff.1 c)
    obtain ⟨b, off, rfl, hb, hc0⟩ := hm 0 (by omega)
    obtain ⟨b', off', e', hb', hc1⟩ := hm (L.length - 1) (by omega)
    cases e'
    have hx := hcan h0
    have hy := natL_mod L
    rw [hodd] at hy
    obtain ⟨n, hn⟩ : ∃ n, Hid (L.length = n) := ⟨_, rfl⟩
    rw [hn.out] at hlen hl0 hc1 hx ⊢
    obtain ⟨x, hx'⟩ : ∃ x, Hid (L.getD (n - 1) 0 = x) := ⟨_, rfl⟩
    obtain ⟨y, hy'⟩ : ∃ y, Hid (L.getD 0 0 = y) := ⟨_, rfl⟩
    rw [hx'.out] at hc1 hx
    rw [hy'.out, Nat.add_zero] at hc0
    rw [hy'.out] at hy
    obtain ⟨k, hk⟩ : ∃ k, Hid (n = k + 1) := ⟨n - 1, show n = n - 1 + 1 by omega⟩
    have hkk : n - 1 = k := by have := hk.out; omega
    rw [hkk] at hc1
    have hk1 : IntKind.i64.wrap ((n : Int) - 1) = (k : Int) := by have := hk.out; rw [IntWalk.i64_in _ (by omega)]; omega
    have hk2 : (n : Int) - 1 = (k : Int) := by have := hk.out; omega
    have hkn : ((n : Int) == 0) = false := by simp; omega
    have hkb : (k : Int) < (n : Int) := by omega
    have hxb : ((x : Int) == 0) = false := by simpa using hx
    have hyb : (y : Int) % 2 = 1 := by omega
    have hlI : (n : Int) ≤ 2048 := by omega
    have h0n : (0 : Int) < (n : Int) := by omega
    clear hkk
    have hbw : b < w.heap.size := hb
    have HW := hid (fun (W : World) => within_any e W he1 he2)
    clear hm hodd hcan hy hlen hl0 h0 hb hb' he1 he2 hx' hy' hn hk
    go_enter Tryz.func47, Tryz.ntmps47
    go_wp2_with fail
    refine (HW.out _).mono ?_
    rintro r w1 ⟨rfl, rfl⟩
    go_wp2
    go_ret
    exact ⟨ret_bool (by simpa using hx), (Below.refl _ _).alloc (Nat.le_refl _) _⟩
end Go.Proofs.YtphdinjmkhefmaaGreatDoor

namespace Go.Proofs.YtphdinjmkhefmaaGreatDoor
open Go.RowKit Go.IntWalk

end Go.Proofs.YtphdinjmkhefmaaGreatDoor
