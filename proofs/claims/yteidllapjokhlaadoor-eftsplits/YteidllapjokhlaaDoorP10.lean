
/- Two and Quick lose nothing: numbers of an amount of at most 2^1022, in plain arithmetic. No program is spoken of. -/
import Derived.Test.YteidllapjokhlaaDoorP9
import Derived.Test.YteidllapjokhlaaDoorRows
import Derived.Test.YteidllapjokhlaaDoorP1
import Derived.WalkKit
import Derived.WalkSpells
import Derived.WalkLawsBesides
import Derived.Deep.RegionHeld3
import Derived.Deep.QuietTactic
import Derived.BigQuiet
namespace Go.Proofs.YteidllapjokhlaaDoor
open Go Go.RowKit Go.IntWalk

def kG : Nat := 2044
theorem kG_is : kG = 2044 := rfl
theorem pow_more (n : Nat) : 2 ^ (n + 52) = 4503599627370496 * 2 ^ n ∧ 2 ^ (n + 53) = 9007199254740992 * 2 ^ n := by
  have e1 : (2 : Nat) ^ 52 = 4503599627370496 := by decide
  have e2 : (2 : Nat) ^ 53 = 9007199254740992 := by decide
  rw [Nat.pow_add, Nat.pow_add, e1, e2, Nat.mul_comm, Nat.mul_comm (2 ^ n)]
  exact ⟨rfl, rfl⟩
/-- The error of what isn't above 2^53 M is at most M. -/
theorem rz_small (v : Int) (n : Nat) (h : v.natAbs ≤ 9007199254740992 * 2 ^ n) : (rz v - v).natAbs ≤ 2 ^ n := by
  have he := rz_err v
  have hd : Dz v ≤ n + 1 := by
    refine dN_le _ _ ?_
    rw [Nat.pow_succ]
    have := Nat.two_pow_pos n
    omega
  have hp : 2 ^ Dz v ≤ 2 ^ (n + 1) := Nat.pow_le_pow_right (by decide) hd
  rw [Nat.pow_succ] at hp
  omega
theorem fin_add (x y : Nat) (a b : Int) (hx : Fin64 x a) (hy : Fin64 y b) (h : (a + b).natAbs ≤ 9007199254740992 * 2 ^ kG) : ∃ r, FloatKind.f64.format.add x y = some r ∧ Fin64 r (rz (a + b)) ∧ (rz (a + b)).natAbs ≤ 9007199254740992 * 2 ^ kG := by
  obtain ⟨x1, x2, rfl⟩ := hx
  obtain ⟨y1, y2, rfl⟩ := hy
  obtain ⟨s, e, hs⟩ := add_val x y x1 y1 x2 y2
  have hk := kG_is
  rw [← (pow_more kG).2] at h ⊢
  obtain ⟨f1, f2⟩ := fin_rz s _ (kG + 53) (by omega) h hs
  exact ⟨_, e, f1, f2⟩
theorem fin_sub (x y : Nat) (a b : Int) (hx : Fin64 x a) (hy : Fin64 y b) (h : (a - b).natAbs ≤ 9007199254740992 * 2 ^ kG) : ∃ r, FloatKind.f64.format.sub x y = some r ∧ Fin64 r (rz (a - b)) ∧ (rz (a - b)).natAbs ≤ 9007199254740992 * 2 ^ kG := by
  obtain ⟨x1, x2, rfl⟩ := hx
  obtain ⟨y1, y2, rfl⟩ := hy
  obtain ⟨s, e, hs⟩ := sub_val x y x1 y1 x2 y2
  have hk := kG_is
  rw [← (pow_more kG).2] at h ⊢
  obtain ⟨f1, f2⟩ := fin_rz s _ (kG + 53) (by omega) h hs
  exact ⟨_, e, f1, f2⟩
/-- Knuth's sum of two, by the machine. -/
theorem two_vals (x y : Nat) (a b : Int) (hx : Fin64 x a) (hy : Fin64 y b) (ha : a.natAbs ≤ 4503599627370496 * 2 ^ kG) (hb : b.natAbs ≤ 4503599627370496 * 2 ^ kG) :
    ∃ s t e1 e2 e3 e, FloatKind.f64.format.add x y = some s ∧ FloatKind.f64.format.sub s x = some t ∧ FloatKind.f64.format.sub s t = some e1 ∧ FloatKind.f64.format.sub x e1 = some e2 ∧ FloatKind.f64.format.sub y t = some e3 ∧ FloatKind.f64.format.add e2 e3 = some e ∧ Fin64 s (rz (a + b)) ∧ Fin64 e (a + b - rz (a + b)) := by
  have fa : Fz a := by obtain ⟨_, _, rfl⟩ := hx; exact Fz_sv x
  have fb : Fz b := by obtain ⟨_, _, rfl⟩ := hy; exact Fz_sv y
  obtain ⟨t1, t2⟩ := two_sum a b fa fb
  obtain ⟨M, hM⟩ : ∃ M, 2 ^ kG = M := ⟨_, rfl⟩
  rw [hM] at ha hb
  clear fa fb t2
  obtain ⟨s, hs1, hs2, _⟩ := fin_add x y a b hx hy (by rw [hM]; omega)
  have d1 := rz_small (a + b) kG (by rw [hM]; omega)
  rw [hM] at d1
  obtain ⟨S, hS⟩ : ∃ S, rz (a + b) = S := ⟨_, rfl⟩
  rw [hS] at hs2 d1 t1
  rw [hS]
  obtain ⟨t, ht1, ht2, _⟩ := fin_sub s x S a hs2 hx (by rw [hM]; omega)
  have d2 := rz_small (S - a) kG (by rw [hM]; omega)
  rw [hM] at d2
  obtain ⟨T, hT⟩ : ∃ T, rz (S - a) = T := ⟨_, rfl⟩
  rw [hT] at ht2 d2 t1
  obtain ⟨u, hu1, hu2, _⟩ := fin_sub s t S T hs2 ht2 (by rw [hM]; omega)
  have d3 := rz_small (S - T) kG (by rw [hM]; omega)
  rw [hM] at d3
  obtain ⟨U, hU⟩ : ∃ U, rz (S - T) = U := ⟨_, rfl⟩
  rw [hU] at hu2 d3 t1
  have f1 : (a - U).natAbs ≤ 2 * M := by omega
  have f2 : (b - T).natAbs ≤ 2 * M := by omega
  clear d1 d2 d3 ha hb hS hT hU
  obtain ⟨v, hv1, hv2, _⟩ := fin_sub x u a U hx hu2 (by rw [hM]; omega)
  obtain ⟨q, hq1, hq2, _⟩ := fin_sub y t b T hy ht2 (by rw [hM]; omega)
  have d4 := rz_small (a - U) kG (by rw [hM]; omega)
  have d5 := rz_small (b - T) kG (by rw [hM]; omega)
  rw [hM] at d4 d5
  obtain ⟨V, hV⟩ : ∃ V, rz (a - U) = V := ⟨_, rfl⟩
  obtain ⟨Q, hQ⟩ : ∃ Q, rz (b - T) = Q := ⟨_, rfl⟩
  rw [hV] at hv2 d4 t1
  rw [hQ] at hq2 d5 t1
  obtain ⟨e, he1, he2, _⟩ := fin_add v q V Q hv2 hq2 (by rw [hM]; omega)
  rw [t1] at he2
  exact ⟨s, t, u, v, q, e, hs1, ht1, hu1, hv1, hq1, he1, hs2, he2⟩
/-- Dekker's quick one. -/
theorem quick_vals (x y : Nat) (a b : Int) (hx : Fin64 x a) (hy : Fin64 y b) (ha : a.natAbs ≤ 4503599627370496 * 2 ^ kG) (hb : b.natAbs ≤ 4503599627370496 * 2 ^ kG) (hab : a = 0 ∨ b.natAbs ≤ a.natAbs) :
    ∃ s t e, FloatKind.f64.format.add x y = some s ∧ FloatKind.f64.format.sub s x = some t ∧ FloatKind.f64.format.sub y t = some e ∧ Fin64 s (rz (a + b)) ∧ Fin64 e (a + b - rz (a + b)) := by
  have fa : Fz a := by obtain ⟨_, _, rfl⟩ := hx; exact Fz_sv x
  have fb : Fz b := by obtain ⟨_, _, rfl⟩ := hy; exact Fz_sv y
  obtain ⟨M, hM⟩ : ∃ M, 2 ^ kG = M := ⟨_, rfl⟩
  rw [hM] at ha hb
  obtain ⟨s, hs1, hs2, _⟩ := fin_add x y a b hx hy (by rw [hM]; omega)
  have d1 := rz_small (a + b) kG (by rw [hM]; omega)
  rw [hM] at d1
  have hF : Fz (rz (a + b) - a) := by
    rcases hab with h | h
    · rw [h, Int.zero_add, rz_exact fb, Int.sub_zero]; exact fb
    · refine fast_F a b fa fb (dN_le _ _ ?_)
      have := dN_hi a.natAbs
      show b.natAbs < 9007199254740992 * 2 ^ dN a.natAbs
      omega
  have hE := err_F a b fa fb
  clear fa fb hab
  obtain ⟨S, hS⟩ : ∃ S, rz (a + b) = S := ⟨_, rfl⟩
  rw [hS] at hs2 d1 hF hE
  rw [hS]
  obtain ⟨t, ht1, ht2, _⟩ := fin_sub s x S a hs2 hx (by rw [hM]; omega)
  rw [rz_exact hF] at ht2
  have e1 : b - (S - a) = a + b - S := by omega
  obtain ⟨e, he1, he2, _⟩ := fin_sub y t b (S - a) hy ht2 (by rw [hM]; omega)
  rw [e1, rz_exact hE] at he2
  exact ⟨s, t, e, hs1, ht1, he1, hs2, he2⟩
end Go.Proofs.YteidllapjokhlaaDoor

namespace Go.Proofs.YteidllapjokhlaaDoor
open Go.RowKit

theorem f64bits (b : Nat) (w : World) : (callFunc 40 #[.float .f64 b]).run Tryd.prog w = .ok (.value (.int .u64 b)) w := by
  rw [run_callFunc_extern Tryd.func40 (by kernel_rfl) (by kernel_rfl) (by kernel_rfl) (e := Extern.MathFloatBits.float64bits) (by kernel_rfl)]; rfl
theorem f64from (b : Nat) (w : World) : (callFunc 30 #[.int .u64 b]).run Tryd.prog w = .ok (.value (.float .f64 b)) w := by
  rw [run_callFunc_extern Tryd.func30 (by kernel_rfl) (by kernel_rfl) (by kernel_rfl) (e := Extern.MathFloatBits.float64frombits) (by kernel_rfl)]; rfl

theorem bcell {W w1 : World} (hb : Below W.heap.size W w1) : (∀ b o, b < W.heap.size → w1.cell? ⟨b, o, none⟩ = W.cell? ⟨b, o, none⟩) ∧ (∀ b o, b < W.heap.size → w1.frozen? ⟨b, o, none⟩ = W.frozen? ⟨b, o, none⟩) :=
  ⟨fun b o h => hb.cell (p := ⟨b, o, none⟩) h, fun b o h => hb.frozen (p := ⟨b, o, none⟩) h⟩

set_option maxHeartbeats 400000 in
theorem f_any (x : Nat) (w : World) :
    Calls Tryd.prog 9 #[.int .u64 x] w fun e w' => e = .returned (.float .f64 x) ∧ w' = w := by
  have h2 := f64from
  go_enter Tryd.func9, Tryd.ntmps9
  go_wp2
  go_ret
  exact ⟨rfl, rfl⟩

def cmpOf (a b : Int) : Int := if a < b then -1 else if b < a then 1 else 0
set_option maxHeartbeats 400000 in
theorem layout64_any (w : World) :
    Calls Tryd.prog 61 #[] w fun e w' => e = .returned (.agg #[.int .i64 52, .int .u64 4503599627370495, .int .u64 2047, .int .u64 9223372036854775808, .int .u64 9218868437227405312, .int .u64 9221120237041090561, .int .i64 1075]) ∧ Below w.heap.size w w' := by
  go_enter Tryd.func61, Tryd.ntmps61
  go_wp2
  exact bodyPost_ret (v := .agg #[.int .i64 52, .int .u64 4503599627370495, .int .u64 2047, .int .u64 9223372036854775808, .int .u64 9218868437227405312, .int .u64 9221120237041090561, .int .i64 1075]) (by simp [results, Tryd.results61, go_sem]) rfl ⟨rfl, (Below.refl _ _).alloc (Nat.le_refl _) _⟩

set_option maxHeartbeats 400000 in
theorem canon_eq (x : Nat) (w : World) (hx : x < 18446744073709551616) :
    Calls Tryd.prog 60 #[.agg #[.int .i64 52, .int .u64 4503599627370495, .int .u64 2047, .int .u64 9223372036854775808, .int .u64 9218868437227405312, .int .u64 9221120237041090561, .int .i64 1075], .int .u64 x] w fun e w' => e = .returned (.int .u64 (canonOf x)) ∧ w' = w.alloc (.cells #[.int .i64 52, .int .u64 4503599627370495, .int .u64 2047, .int .u64 9223372036854775808, .int .u64 9218868437227405312, .int .u64 9221120237041090561, .int .i64 1075] 91) := by
  go_enter Tryd.func60, Tryd.ntmps60
  go_wp2
  · go_ret
    exact ⟨ret_int (canon_w1 hx ‹_›), rfl⟩
  · go_ret
    exact ⟨ret_int (canon_w2 hx ‹_›), rfl⟩
theorem canon_any (x : Nat) (w : World) (hx : x < 18446744073709551616) :
    Calls Tryd.prog 60 #[.agg #[.int .i64 52, .int .u64 4503599627370495, .int .u64 2047, .int .u64 9223372036854775808, .int .u64 9218868437227405312, .int .u64 9221120237041090561, .int .i64 1075], .int .u64 x] w fun e w' => e = .returned (.int .u64 (canonOf x)) ∧ Below w.heap.size w w' :=
  (canon_eq x w hx).mono fun _ _ h => ⟨h.1, by rw [h.2]; exact (Below.refl _ _).alloc (Nat.le_refl _) _⟩
end Go.Proofs.YteidllapjokhlaaDoor

namespace Go.Proofs.YteidllapjokhlaaDoor
open Go.RowKit

set_option maxHeartbeats 400000 in
theorem split64_any (x : Nat) (w : World) (hx : x < 18446744073709551616) :
    Calls Tryd.prog 91 #[.agg #[.int .i64 52, .int .u64 4503599627370495, .int .u64 2047, .int .u64 9223372036854775808, .int .u64 9218868437227405312, .int .u64 9221120237041090561, .int .i64 1075], .int .u64 x] w fun e w' => e = .returned (.tuple #[.bool (negOf x), .int .i64 (expOf x), .int .u64 (fracOf x)]) ∧ Below w.heap.size w w' := by
  go_enter Tryd.func91, Tryd.ntmps91
  go_wp2_with fail
  refine (canon_any x _ hx).mono ?_
  rintro e w1 ⟨rfl, hb⟩
  obtain ⟨hc, hf⟩ := bcell hb
  go_wp2_with fail
  go_quiet (fail)
  go_wp2
  go_ret3
  exact ⟨ret_bii (neg_w hx) (exp_w hx) (frac_w hx), bl_drewN _ (bl_alloc hb)⟩

set_option maxHeartbeats 400000 in
theorem Split_any (x : Nat) (w : World) (hx : x < 18446744073709551616) :
    Calls Tryd.prog 74 #[.float .f64 x] w fun e w' => e = .returned (.tuple #[.bool (negOf x), .int .i64 (expOf x), .int .u64 (fracOf x)]) ∧ Below w.heap.size w w' := by
  have h1 := f64bits
  go_enter Tryd.func74, Tryd.ntmps74
  go_wp2_with fail
  refine (layout64_any _).mono ?_
  rintro e w1 ⟨rfl, hb⟩
  go_wp2_with fail
  refine (split64_any x _ hx).mono ?_
  rintro e w2 ⟨rfl, hb2⟩
  go_wp2_with fail
  go_ret3
  exact ⟨rfl, bl_then hb hb2⟩

/-- The class that the fields tell. -/
def classN (x : Nat) : Nat := if expOf x = 2047 then (if fracOf x = 0 then 2 else 1) else if expOf x = 0 then (if fracOf x = 0 then 3 else 4) else 5
end Go.Proofs.YteidllapjokhlaaDoor
