
/- The document's Whole, Int and Uint of every number, every width and mode: they answer as convert does. -/
import Derived.Test.YtpgcelbgmpfliaaGreatDoorV46
import Derived.Test.YtpgcelbgmpfliaaGreatDoorV47
import Derived.Test.YtpgcelbgmpfliaaGreatDoorV48
import Derived.Test.YtpgcelbgmpfliaaGreatDoorV49
namespace Go.Proofs.YtpgcelbgmpfliaaGreatDoor
open Go Go.RowKit Go.IntWalk

set_option maxHeartbeats 400000 in
theorem IsZero_not (kind : Int) (neg : Bool) (z : Option Addr) (e : Int) (w : World) (hk : kind ≠ 0) :
    Calls Tryz.prog 55 #[.agg #[.int .i64 kind, .bool neg, .pointer z, .int .i64 e]] w fun r w' => r = .returned (.bool false) ∧ Below w.heap.size w w' := by
  have hkb : (kind == 0) = false := by simpa using hk
  clear hk
  go_enter Tryz.func55, Tryz.ntmps55
  go_wp2
  go_ret
  exact ⟨rfl, al_below _ _⟩
theorem wTake_fin (x : Nat) (w : World) (hx : x < 18446744073709551616) (hf : x % 9223372036854775808 < 9218868437227405312) :
    Calls Tryz.prog 54 #[.agg #[.int .i64 53, .int .i64 (-1022), .int .i64 1023, .int .i64 11], .int .u64 x] w fun r w' => ∃ z, r = .returned (.agg #[.int .i64 0, .bool (decide (9223372036854775808 ≤ x)), .pointer (some ⟨z, 0, none⟩), .int .i64 (tE64 x)]) ∧ NumAt w' z (tM64 x : Int) 2 ∧ Below w.heap.size w w' := by
  unfold tE64 tM64
  by_cases h : x / 4503599627370496 % 2048 = 0
  · rw [if_pos h, if_pos h]
    exact Take64_sub x w hx h
  · rw [if_neg h, if_neg h]
    exact Take64_norm x w hx h (by omega)
theorem wE_bd (x : Nat) : -1074 ≤ tE64 x ∧ tE64 x ≤ 1000 := by unfold tE64; split <;> omega
theorem wM_zero (x : Nat) (hf : x % 9223372036854775808 < 9218868437227405312) : tM64 x = 0 ↔ x % 9223372036854775808 = 0 := by
  unfold tM64
  split <;> omega
/-- What Whole answers. -/
def whA (x : Nat) (mode : Int) : Nat := if 9218868437227405312 < x % 9223372036854775808 then 9221120237041090561 else signN (decide (9223372036854775808 ≤ x)) (wR mode (decide (9223372036854775808 ≤ x)) (x % 9223372036854775808))
def whB (x : Nat) : Int := if 9218868437227405312 < x % 9223372036854775808 then 0 else whFl x
theorem Whole_full2 (x : Nat) (mode : Int) (w : World) (hx : x < 18446744073709551616) (hm1 : 0 ≤ mode) (hm2 : mode ≤ 4) (hT : Tab w) (hs : 1 < w.heap.size) :
    Calls Tryz.prog 15 #[.float .f64 x, .int .i64 mode] w fun r w' => r = .returned (.tuple #[.float .f64 (whA x mode), .int .i64 (whB x), .int .i64 0]) ∧ Below w.heap.size w w' := by
  unfold whA whB
  by_cases hn : 9218868437227405312 < x % 9223372036854775808
  · rw [if_pos hn, if_pos hn]; exact Whole_nan x mode w hx hn hm1 hm2 hT hs
  · rw [if_neg hn, if_neg hn]; exact Whole_full x mode w hx (by omega) hm1 hm2 hT hs
theorem rWhole_all (x : Nat) (mode : Int) (w : World) (hx : x < 18446744073709551616) (hm : 0 ≤ mode ∧ mode ≤ 4) :
    Calls Tryz.prog 17 #[.int .u64 x, .int .i64 mode] w fun r w' => r = .returned (.tuple #[.int .u64 (whA x mode), .int .i64 (whB x), .int .i64 0]) ∧ Below w.heap.size w w' := by
  unfold whA whB
  by_cases hn : 9218868437227405312 < x % 9223372036854775808
  · rw [if_pos hn, if_pos hn]
    refine rWhole_sp (fun _ _ => True) x 9221120237041090561 2 0 mode 0 false false w hm (Or.inl (Or.inr rfl)) (fun _ _ _ _ _ => trivial) (fun W => ?_) (fun W z _ => IsZero_not 2 false _ 0 W (by decide)) (fun W z _ => same64_nan false _ 0 mode W)
    refine (Take64_nan x W hx (by omega) (by omega)).mono ?_
    rintro r w' ⟨z, hr, hb⟩
    exact ⟨z, hr, trivial, hb⟩
  · rw [if_neg hn, if_neg hn]
    by_cases hi : x % 9223372036854775808 = 9218868437227405312
    · rw [wR_inf x mode _ hi, whFl_inf x hi]
      refine rWhole_sp (fun _ _ => True) x _ 1 (-1074) mode 0 (decide (9223372036854775808 ≤ x)) false w hm (Or.inl (Or.inl rfl)) (fun _ _ _ _ _ => trivial) (fun W => ?_) (fun W z _ => IsZero_not 1 _ _ _ W (by decide)) (fun W z _ => same64_inf _ _ _ mode W)
      refine (Take64_inf x W hx (by omega) (by omega)).mono ?_
      rintro r w' ⟨z, hr, hb⟩
      exact ⟨z, hr, trivial, hb⟩
    · have hf : x % 9223372036854775808 < 9218868437227405312 := by omega
      have hz := wM_zero x hf
      obtain ⟨e1, e2⟩ := wE_bd x
      by_cases h0 : x % 9223372036854775808 = 0
      · rw [wR_nought x mode _ h0, whFl_nought x h0]
        have hI : ∀ (W : World) (z : Nat), NumAt W z (tM64 x : Int) 2 → Calls Tryz.prog 55 #[.agg #[.int .i64 0, .bool (decide (9223372036854775808 ≤ x)), .pointer (some ⟨z, 0, none⟩), .int .i64 (tE64 x)]] W fun r w' => r = .returned (.bool true) ∧ Below W.heap.size W w' := fun W z h => by
          have := IsZero_any 0 (decide (9223372036854775808 ≤ x)) z (tM64 x) 2 (tE64 x) W h
          rw [decide_eq_true (hz.2 h0)] at this
          exact this
        have hsame := fun (W : World) (z : Nat) (h : NumAt W z (tM64 x : Int) 2) => same64_fin (decide (9223372036854775808 ≤ x)) z (tM64 x) 2 (tE64 x) mode W h (by decide) (by omega) (by omega)
        rw [if_pos (hz.2 h0), if_pos (hz.2 h0)] at hsame
        exact rWhole_sp (fun W z => NumAt W z (tM64 x : Int) 2) x _ 0 (tE64 x) mode 0 (decide (9223372036854775808 ≤ x)) true w hm (Or.inr ⟨rfl, rfl⟩) (fun _ _ _ h hb => h.below hb) (fun W => wTake_fin x W hx hf) hI hsame
      · have hm0 : tM64 x ≠ 0 := fun c => h0 (hz.1 c)
        rw [wR_doc x mode hx hf h0, whFl_doc x hf h0]
        have := rWhole_fin x (tM64 x) _ (tE64 x) mode (decide (9223372036854775808 ≤ x)) _ w hm hm0 (fun W => wTake_fin x W hx hf) (fun W z h => rwhole_any 0 (decide (9223372036854775808 ≤ x)) z (tM64 x) (tE64 x) mode W h (by omega) (by omega))
        rw [(steps_same x mode (decide (9223372036854775808 ≤ x)) hf h0).1] at this
        have e : signN (decide (9223372036854775808 ≤ x)) (if whQ mode x = 0 then 0 else docR64 (whQ mode x) 0 0 (decide (9223372036854775808 ≤ x))) = if whQ mode x = 0 then signN (decide (9223372036854775808 ≤ x)) 0 else signN (decide (9223372036854775808 ≤ x)) (docR64 (whQ mode x) 0 0 (decide (9223372036854775808 ≤ x))) := by split <;> rfl
        rw [e]
        exact this
/-- What Int and Uint answer, between two ends. -/
def whV (lo hi : Int) (x : Nat) (mode : Int) : Int := if 9218868437227405312 < x % 9223372036854775808 then 0 else clI lo hi tI (sv (signN (decide (9223372036854775808 ≤ x)) (wR mode (decide (9223372036854775808 ≤ x)) (x % 9223372036854775808))))
def whG (lo hi : Int) (x : Nat) (mode : Int) : Int := if 9218868437227405312 < x % 9223372036854775808 then 8 else clF lo hi tI (sv (signN (decide (9223372036854775808 ≤ x)) (wR mode (decide (9223372036854775808 ≤ x)) (x % 9223372036854775808)))) (whFl x)
theorem clI_bd (lo hi T v : Int) (hT : 0 < T) (h : lo ≤ hi) : lo ≤ clI lo hi T v ∧ clI lo hi T v ≤ hi := by
  unfold clI
  by_cases a : v < lo * T
  · rw [if_pos a]; omega
  · rw [if_neg a]
    by_cases b : (hi + 1) * T ≤ v
    · rw [if_pos b]; omega
    · rw [if_neg b]
      have h1 := (Int.le_ediv_iff_mul_le hT).2 (show lo * T ≤ v by omega)
      have h2 := Int.ediv_lt_of_lt_mul hT (show v < (hi + 1) * T by omega)
      omega
theorem whV_bd (lo hi : Int) (x : Nat) (mode : Int) (hlo : lo ≤ 0) (hhi : 0 ≤ hi) : lo ≤ whV lo hi x mode ∧ whV lo hi x mode ≤ hi := by
  unfold whV
  split
  · exact ⟨hlo, hhi⟩
  · exact clI_bd _ _ _ _ tI_pos (by omega)
theorem rwithin_all (x lo hi : Nat) (vl vh mode : Int) (w : World) (hx : x < 18446744073709551616) (hlo : NumAt w lo vl 80) (hhi : NumAt w hi vh 80) (l1 : -36893488147419103232 < vl) (l2 : vl ≤ 0) (l3 : 0 ≤ vh) (l4 : vh + 1 ≤ 36893488147419103232) :
    Calls Tryz.prog 65 #[.int .u64 x, .pointer (some ⟨lo, 0, none⟩), .pointer (some ⟨hi, 0, none⟩), .int .i64 mode] w fun r w' => ∃ q, r = .returned (.tuple #[.pointer (some ⟨q, 0, none⟩), .int .i64 (whG vl vh x mode)]) ∧ NumAt w' q (whV vl vh x mode) 80 ∧ Below w.heap.size w w' := by
  unfold whV whG
  by_cases hn : 9218868437227405312 < x % 9223372036854775808
  · rw [if_pos hn, if_pos hn]
    exact rwithin_nan x lo hi 0 mode false w (fun W => Take64_nan x W hx (by omega) (by omega))
  · rw [if_neg hn, if_neg hn]
    by_cases hi2 : x % 9223372036854775808 = 9218868437227405312
    · rw [wR_inf x mode _ hi2, sv_inf]
      obtain ⟨c1, c2⟩ := cl_inf (decide (9223372036854775808 ≤ x)) vl vh (whFl x) l1 l2 l4
      rw [c1, c2]
      exact rwithin_inf x lo hi vl vh (-1074) mode _ w hlo hhi (fun W => Take64_inf x W hx (by omega) (by omega))
    · have hf : x % 9223372036854775808 < 9218868437227405312 := by omega
      obtain ⟨e1, e2⟩ := wE_bd x
      have hfin := rwithin_fin x lo hi (tM64 x) _ vl vh (tE64 x) mode (decide (9223372036854775808 ≤ x)) _ w hlo hhi (fun W => wTake_fin x W hx hf) (fun W z h => rwhole_any 0 (decide (9223372036854775808 ≤ x)) z (tM64 x) (tE64 x) mode W h (by omega) (by omega))
      by_cases h0 : x % 9223372036854775808 = 0
      · rw [wR_nought x mode _ h0]
        obtain ⟨c1, c2⟩ := cl_zero (decide (9223372036854775808 ≤ x)) vl vh tI (whFl x) tI_pos l2 l3
        rw [c1, c2, whFl_nought x h0]
        rw [(wM_zero x hf).2 h0] at hfin
        have q0 : ∀ sh, cutQ 0 sh = 0 := fun sh => by unfold cutQ; split <;> simp
        have r0 : ∀ sh, cutR 0 sh = 0 := fun sh => by unfold cutR restN; split <;> simp
        have s0 : stepQ 0 (0 - tE64 x) mode (decide (9223372036854775808 ≤ x)) = 0 := by unfold stepQ; rw [q0, r0, if_neg (by simp)]
        rw [s0, r0, decide_eq_false (by simp)] at hfin
        have z0 : (if decide (9223372036854775808 ≤ x) = true then -((0 : Nat) : Int) else ((0 : Nat) : Int)) = 0 := by split <;> rfl
        rw [z0] at hfin
        have w1 : wiV (decide (9223372036854775808 ≤ x)) 0 vl vh = 0 := by unfold wiV; rw [if_neg (by omega)]
        have w2 : wiF false 0 vl vh = 0 := by unfold wiF; rw [if_neg (by omega)]; rfl
        rw [w1, w2] at hfin
        exact hfin
      · rw [whole_v x mode hx hf h0]
        obtain ⟨c1, c2⟩ := cl_doc (decide (9223372036854775808 ≤ x)) (whQ mode x) vl vh tI (whFl x) tI_pos l2 l3
        rw [c1, c2, whFl_doc x hf h0]
        rw [(steps_same x mode (decide (9223372036854775808 ≤ x)) hf h0).1] at hfin
        exact hfin

theorem rInt8_all (x : Nat) (mode : Int) (w : World) (hx : x < 18446744073709551616) (hm : 0 ≤ mode ∧ mode ≤ 4) :
    Calls Tryz.prog 19 #[.int .u64 x, .int .i64 8, .int .i64 mode] w fun r w' => r = .returned (.tuple #[.int .i64 (whV (-128) 127 x mode), .int .i64 (whG (-128) 127 x mode), .int .i64 0]) ∧ Below w.heap.size w w' := by
  have hb := whV_bd (-128) 127 x mode (by decide) (by decide)
  refine rInt_core x 7 _ _ mode w hm (by decide) (by omega) (by omega) (fun W lo hi hlo hhi => ?_)
  exact rwithin_all x lo hi (-128) 127 mode W hx hlo hhi (by decide) (by decide) (by decide) (by decide)
theorem rUint8_all (x : Nat) (mode : Int) (w : World) (hx : x < 18446744073709551616) (hm : 0 ≤ mode ∧ mode ≤ 4) :
    Calls Tryz.prog 21 #[.int .u64 x, .int .i64 8, .int .i64 mode] w fun r w' => r = .returned (.tuple #[.int .u64 (whV 0 255 x mode), .int .i64 (whG 0 255 x mode), .int .i64 0]) ∧ Below w.heap.size w w' := by
  have hb := whV_bd 0 255 x mode (by decide) (by decide)
  obtain ⟨V, hV⟩ := Int.eq_ofNat_of_zero_le hb.1
  rw [hV] at hb ⊢
  refine rUint_core x 8 V _ mode w hm (by decide) (by omega) (fun W lo hi hlo hhi => ?_)
  have := rwithin_all x lo hi 0 255 mode W hx hlo hhi (by decide) (by decide) (by decide) (by decide)
  rw [hV] at this
  exact this
theorem Int8_all (x : Nat) (mode : Int) (w : World) (hx : x < 18446744073709551616) (hm : 0 ≤ mode ∧ mode ≤ 4) (hT : Tab w) (hs : 1 < w.heap.size) :
    Calls Tryz.prog 18 #[.float .f64 x, .int .i64 8, .int .i64 mode] w fun r w' => r = .returned (.tuple #[.int .i64 (whV (-128) 127 x mode), .int .i64 (whG (-128) 127 x mode), .int .i64 0]) ∧ Below w.heap.size w w' := by
  unfold whV whG
  by_cases hn : 9218868437227405312 < x % 9223372036854775808
  · rw [if_pos hn, if_pos hn]
    exact Int8_nan x 9221120237041090561 mode 0 w (by decide) (by decide) (Whole_nan x mode w hx hn hm.1 hm.2 hT hs)
  · rw [if_neg hn, if_neg hn]
    exact Int8_full x mode w hx (by omega) hm.1 hm.2 hT hs
theorem Uint8_all (x : Nat) (mode : Int) (w : World) (hx : x < 18446744073709551616) (hm : 0 ≤ mode ∧ mode ≤ 4) (hT : Tab w) (hs : 1 < w.heap.size) :
    Calls Tryz.prog 20 #[.float .f64 x, .int .i64 8, .int .i64 mode] w fun r w' => r = .returned (.tuple #[.int .u64 (whV 0 255 x mode), .int .i64 (whG 0 255 x mode), .int .i64 0]) ∧ Below w.heap.size w w' := by
  unfold whV whG
  by_cases hn : 9218868437227405312 < x % 9223372036854775808
  · rw [if_pos hn, if_pos hn]
    exact Uint8_nan x 9221120237041090561 mode 0 w (by decide) (by decide) (Whole_nan x mode w hx hn hm.1 hm.2 hT hs)
  · rw [if_neg hn, if_neg hn]
    exact Uint8_full x mode w hx (by omega) hm.1 hm.2 hT hs

theorem rInt16_all (x : Nat) (mode : Int) (w : World) (hx : x < 18446744073709551616) (hm : 0 ≤ mode ∧ mode ≤ 4) :
    Calls Tryz.prog 19 #[.int .u64 x, .int .i64 16, .int .i64 mode] w fun r w' => r = .returned (.tuple #[.int .i64 (whV (-32768) 32767 x mode), .int .i64 (whG (-32768) 32767 x mode), .int .i64 0]) ∧ Below w.heap.size w w' := by
  have hb := whV_bd (-32768) 32767 x mode (by decide) (by decide)
  refine rInt_core x 15 _ _ mode w hm (by decide) (by omega) (by omega) (fun W lo hi hlo hhi => ?_)
  exact rwithin_all x lo hi (-32768) 32767 mode W hx hlo hhi (by decide) (by decide) (by decide) (by decide)
theorem rUint16_all (x : Nat) (mode : Int) (w : World) (hx : x < 18446744073709551616) (hm : 0 ≤ mode ∧ mode ≤ 4) :
    Calls Tryz.prog 21 #[.int .u64 x, .int .i64 16, .int .i64 mode] w fun r w' => r = .returned (.tuple #[.int .u64 (whV 0 65535 x mode), .int .i64 (whG 0 65535 x mode), .int .i64 0]) ∧ Below w.heap.size w w' := by
  have hb := whV_bd 0 65535 x mode (by decide) (by decide)
  obtain ⟨V, hV⟩ := Int.eq_ofNat_of_zero_le hb.1
  rw [hV] at hb ⊢
  refine rUint_core x 16 V _ mode w hm (by decide) (by omega) (fun W lo hi hlo hhi => ?_)
  have := rwithin_all x lo hi 0 65535 mode W hx hlo hhi (by decide) (by decide) (by decide) (by decide)
  rw [hV] at this
  exact this
theorem Int16_all (x : Nat) (mode : Int) (w : World) (hx : x < 18446744073709551616) (hm : 0 ≤ mode ∧ mode ≤ 4) (hT : Tab w) (hs : 1 < w.heap.size) :
    Calls Tryz.prog 18 #[.float .f64 x, .int .i64 16, .int .i64 mode] w fun r w' => r = .returned (.tuple #[.int .i64 (whV (-32768) 32767 x mode), .int .i64 (whG (-32768) 32767 x mode), .int .i64 0]) ∧ Below w.heap.size w w' := by
  unfold whV whG
  by_cases hn : 9218868437227405312 < x % 9223372036854775808
  · rw [if_pos hn, if_pos hn]
    exact Int16_nan x 9221120237041090561 mode 0 w (by decide) (by decide) (Whole_nan x mode w hx hn hm.1 hm.2 hT hs)
  · rw [if_neg hn, if_neg hn]
    exact Int16_full x mode w hx (by omega) hm.1 hm.2 hT hs
theorem Uint16_all (x : Nat) (mode : Int) (w : World) (hx : x < 18446744073709551616) (hm : 0 ≤ mode ∧ mode ≤ 4) (hT : Tab w) (hs : 1 < w.heap.size) :
    Calls Tryz.prog 20 #[.float .f64 x, .int .i64 16, .int .i64 mode] w fun r w' => r = .returned (.tuple #[.int .u64 (whV 0 65535 x mode), .int .i64 (whG 0 65535 x mode), .int .i64 0]) ∧ Below w.heap.size w w' := by
  unfold whV whG
  by_cases hn : 9218868437227405312 < x % 9223372036854775808
  · rw [if_pos hn, if_pos hn]
    exact Uint16_nan x 9221120237041090561 mode 0 w (by decide) (by decide) (Whole_nan x mode w hx hn hm.1 hm.2 hT hs)
  · rw [if_neg hn, if_neg hn]
    exact Uint16_full x mode w hx (by omega) hm.1 hm.2 hT hs

theorem rInt32_all (x : Nat) (mode : Int) (w : World) (hx : x < 18446744073709551616) (hm : 0 ≤ mode ∧ mode ≤ 4) :
    Calls Tryz.prog 19 #[.int .u64 x, .int .i64 32, .int .i64 mode] w fun r w' => r = .returned (.tuple #[.int .i64 (whV (-2147483648) 2147483647 x mode), .int .i64 (whG (-2147483648) 2147483647 x mode), .int .i64 0]) ∧ Below w.heap.size w w' := by
  have hb := whV_bd (-2147483648) 2147483647 x mode (by decide) (by decide)
  refine rInt_core x 31 _ _ mode w hm (by decide) (by omega) (by omega) (fun W lo hi hlo hhi => ?_)
  exact rwithin_all x lo hi (-2147483648) 2147483647 mode W hx hlo hhi (by decide) (by decide) (by decide) (by decide)
theorem rUint32_all (x : Nat) (mode : Int) (w : World) (hx : x < 18446744073709551616) (hm : 0 ≤ mode ∧ mode ≤ 4) :
    Calls Tryz.prog 21 #[.int .u64 x, .int .i64 32, .int .i64 mode] w fun r w' => r = .returned (.tuple #[.int .u64 (whV 0 4294967295 x mode), .int .i64 (whG 0 4294967295 x mode), .int .i64 0]) ∧ Below w.heap.size w w' := by
  have hb := whV_bd 0 4294967295 x mode (by decide) (by decide)
  obtain ⟨V, hV⟩ := Int.eq_ofNat_of_zero_le hb.1
  rw [hV] at hb ⊢
  refine rUint_core x 32 V _ mode w hm (by decide) (by omega) (fun W lo hi hlo hhi => ?_)
  have := rwithin_all x lo hi 0 4294967295 mode W hx hlo hhi (by decide) (by decide) (by decide) (by decide)
  rw [hV] at this
  exact this
theorem Int32_all (x : Nat) (mode : Int) (w : World) (hx : x < 18446744073709551616) (hm : 0 ≤ mode ∧ mode ≤ 4) (hT : Tab w) (hs : 1 < w.heap.size) :
    Calls Tryz.prog 18 #[.float .f64 x, .int .i64 32, .int .i64 mode] w fun r w' => r = .returned (.tuple #[.int .i64 (whV (-2147483648) 2147483647 x mode), .int .i64 (whG (-2147483648) 2147483647 x mode), .int .i64 0]) ∧ Below w.heap.size w w' := by
  unfold whV whG
  by_cases hn : 9218868437227405312 < x % 9223372036854775808
  · rw [if_pos hn, if_pos hn]
    exact Int32_nan x 9221120237041090561 mode 0 w (by decide) (by decide) (Whole_nan x mode w hx hn hm.1 hm.2 hT hs)
  · rw [if_neg hn, if_neg hn]
    exact Int32_full x mode w hx (by omega) hm.1 hm.2 hT hs
theorem Uint32_all (x : Nat) (mode : Int) (w : World) (hx : x < 18446744073709551616) (hm : 0 ≤ mode ∧ mode ≤ 4) (hT : Tab w) (hs : 1 < w.heap.size) :
    Calls Tryz.prog 20 #[.float .f64 x, .int .i64 32, .int .i64 mode] w fun r w' => r = .returned (.tuple #[.int .u64 (whV 0 4294967295 x mode), .int .i64 (whG 0 4294967295 x mode), .int .i64 0]) ∧ Below w.heap.size w w' := by
  unfold whV whG
  by_cases hn : 9218868437227405312 < x % 9223372036854775808
  · rw [if_pos hn, if_pos hn]
    exact Uint32_nan x 9221120237041090561 mode 0 w (by decide) (by decide) (Whole_nan x mode w hx hn hm.1 hm.2 hT hs)
  · rw [if_neg hn, if_neg hn]
    exact Uint32_full x mode w hx (by omega) hm.1 hm.2 hT hs

theorem rInt64_all (x : Nat) (mode : Int) (w : World) (hx : x < 18446744073709551616) (hm : 0 ≤ mode ∧ mode ≤ 4) :
    Calls Tryz.prog 19 #[.int .u64 x, .int .i64 64, .int .i64 mode] w fun r w' => r = .returned (.tuple #[.int .i64 (whV (-9223372036854775808) 9223372036854775807 x mode), .int .i64 (whG (-9223372036854775808) 9223372036854775807 x mode), .int .i64 0]) ∧ Below w.heap.size w w' := by
  have hb := whV_bd (-9223372036854775808) 9223372036854775807 x mode (by decide) (by decide)
  refine rInt_core x 63 _ _ mode w hm (by decide) (by omega) (by omega) (fun W lo hi hlo hhi => ?_)
  exact rwithin_all x lo hi (-9223372036854775808) 9223372036854775807 mode W hx hlo hhi (by decide) (by decide) (by decide) (by decide)
theorem rUint64_all (x : Nat) (mode : Int) (w : World) (hx : x < 18446744073709551616) (hm : 0 ≤ mode ∧ mode ≤ 4) :
    Calls Tryz.prog 21 #[.int .u64 x, .int .i64 64, .int .i64 mode] w fun r w' => r = .returned (.tuple #[.int .u64 (whV 0 18446744073709551615 x mode), .int .i64 (whG 0 18446744073709551615 x mode), .int .i64 0]) ∧ Below w.heap.size w w' := by
  have hb := whV_bd 0 18446744073709551615 x mode (by decide) (by decide)
  obtain ⟨V, hV⟩ := Int.eq_ofNat_of_zero_le hb.1
  rw [hV] at hb ⊢
  refine rUint_core x 64 V _ mode w hm (by decide) (by omega) (fun W lo hi hlo hhi => ?_)
  have := rwithin_all x lo hi 0 18446744073709551615 mode W hx hlo hhi (by decide) (by decide) (by decide) (by decide)
  rw [hV] at this
  exact this
theorem Int64_all (x : Nat) (mode : Int) (w : World) (hx : x < 18446744073709551616) (hm : 0 ≤ mode ∧ mode ≤ 4) (hT : Tab w) (hs : 1 < w.heap.size) :
    Calls Tryz.prog 18 #[.float .f64 x, .int .i64 64, .int .i64 mode] w fun r w' => r = .returned (.tuple #[.int .i64 (whV (-9223372036854775808) 9223372036854775807 x mode), .int .i64 (whG (-9223372036854775808) 9223372036854775807 x mode), .int .i64 0]) ∧ Below w.heap.size w w' := by
  unfold whV whG
  by_cases hn : 9218868437227405312 < x % 9223372036854775808
  · rw [if_pos hn, if_pos hn]
    exact Int64_nan x 9221120237041090561 mode 0 w (by decide) (by decide) (Whole_nan x mode w hx hn hm.1 hm.2 hT hs)
  · rw [if_neg hn, if_neg hn]
    exact Int64_full x mode w hx (by omega) hm.1 hm.2 hT hs
theorem Uint64_all (x : Nat) (mode : Int) (w : World) (hx : x < 18446744073709551616) (hm : 0 ≤ mode ∧ mode ≤ 4) (hT : Tab w) (hs : 1 < w.heap.size) :
    Calls Tryz.prog 20 #[.float .f64 x, .int .i64 64, .int .i64 mode] w fun r w' => r = .returned (.tuple #[.int .u64 (whV 0 18446744073709551615 x mode), .int .i64 (whG 0 18446744073709551615 x mode), .int .i64 0]) ∧ Below w.heap.size w w' := by
  unfold whV whG
  by_cases hn : 9218868437227405312 < x % 9223372036854775808
  · rw [if_pos hn, if_pos hn]
    exact Uint64_nan x 9221120237041090561 mode 0 w (by decide) (by decide) (Whole_nan x mode w hx hn hm.1 hm.2 hT hs)
  · rw [if_neg hn, if_neg hn]
    exact Uint64_full x mode w hx (by omega) hm.1 hm.2 hT hs

end Go.Proofs.YtpgcelbgmpfliaaGreatDoor
