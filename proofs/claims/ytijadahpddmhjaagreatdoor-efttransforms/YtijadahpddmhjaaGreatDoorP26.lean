
/- What eft's Two, Split and Prod do where each step has an answer; Canon. -/
import Derived.Test.YtijadahpddmhjaaGreatDoorP8
import Derived.Test.YtijadahpddmhjaaGreatDoorP17
import Derived.Test.YtijadahpddmhjaaGreatDoorP18
namespace Go.Proofs.YtijadahpddmhjaaGreatDoor
open Go.RowKit Go.IntWalk

set_option maxHeartbeats 400000 in
theorem Canon_any (x : Nat) (w : World) (hx : x < 18446744073709551616) :
    Calls Tryz.prog 31 #[.float .f64 x] w fun r w' => r = .returned (.float .f64 (canonOf x)) ∧ Below w.heap.size w w' := by
  have h1 := f64bits
  have h2 := f64from
  go_enter Tryz.func31, Tryz.ntmps31
  go_wp2_with fail
  refine (layout64_any _).mono ?_
  rintro r w1 ⟨rfl, hb⟩
  go_wp2_with fail
  refine (canon_any x _ hx).mono ?_
  rintro r w2 ⟨rfl, hb2⟩
  go_wp2_with fail
  go_ret
  exact ⟨rfl, bl_then hb hb2⟩
theorem f_add {x y z : Nat} (h : FloatKind.f64.format.add x y = some z) (w : World) : (binOp .add 23 (.float .f64 x) (.float .f64 y)).run Tryz.prog w = .ok (.float .f64 z) w := run_float_arith w .add _ .f64 x y z h
theorem f_sub {x y z : Nat} (h : FloatKind.f64.format.sub x y = some z) (w : World) : (binOp .sub 23 (.float .f64 x) (.float .f64 y)).run Tryz.prog w = .ok (.float .f64 z) w := run_float_arith w .sub _ .f64 x y z h
theorem f_mul {x y z : Nat} (h : FloatKind.f64.format.mul x y = some z) (w : World) : (binOp .mul 23 (.float .f64 x) (.float .f64 y)).run Tryz.prog w = .ok (.float .f64 z) w := run_float_arith w .mul _ .f64 x y z h
set_option maxHeartbeats 1000000 in
theorem Two_at (a b s t e1 e2 e3 e : Nat) (w : World) (h1 : FloatKind.f64.format.add a b = some s) (h2 : FloatKind.f64.format.sub s a = some t) (h3 : FloatKind.f64.format.sub s t = some e1) (h4 : FloatKind.f64.format.sub a e1 = some e2) (h5 : FloatKind.f64.format.sub b t = some e3) (h6 : FloatKind.f64.format.add e2 e3 = some e) (hs : s < 18446744073709551616) (he : e < 18446744073709551616) :
    Calls Tryz.prog 6 #[.float .f64 a, .float .f64 b] w fun r w' => r = .returned (.tuple #[.float .f64 (canonOf s), .float .f64 (canonOf e)]) ∧ Below w.heap.size w w' := by
  have g1 := f_add h1
  have g2 := f_sub h2
  have g3 := f_sub h3
  have g4 := f_sub h4
  have g5 := f_sub h5
  have g6 := f_add h6
  have HC1 := hid (fun (W : World) => Canon_any s W hs)
  have HC2 := hid (fun (W : World) => Canon_any e W he)
  obtain ⟨S, hS⟩ : ∃ S, Hid (canonOf s = S) := ⟨_, rfl⟩
  obtain ⟨E, hE⟩ : ∃ E, Hid (canonOf e = E) := ⟨_, rfl⟩
  rw [hS.out] at HC1 ⊢
  rw [hE.out] at HC2 ⊢
  clear h1 h2 h3 h4 h5 h6 hs he
  go_enter Tryz.func6, Tryz.ntmps6
  go_wp2_with fail
  refine (HC1.out _).mono ?_
  rintro r w1 ⟨rfl, hb1⟩
  have HB1 := hid hb1
  clear hb1
  go_wp2_with fail
  refine (HC2.out _).mono ?_
  rintro r w2 ⟨rfl, hb2⟩
  have HB2 := hid (HB1.out.trans (hb2.mono HB1.out.size))
  clear hb2
  go_wp2
  go_ret2
  exact ⟨rfl, HB2.out⟩
set_option maxHeartbeats 1000000 in
theorem Split_at (a c d h l : Nat) (w : World) (h1 : FloatKind.f64.format.mul 4728779608772575232 a = some c) (h2 : FloatKind.f64.format.sub c a = some d) (h3 : FloatKind.f64.format.sub c d = some h) (h4 : FloatKind.f64.format.sub a h = some l) (hs : h < 18446744073709551616) (he : l < 18446744073709551616) :
    Calls Tryz.prog 11 #[.float .f64 a] w fun r w' => r = .returned (.tuple #[.float .f64 (canonOf h), .float .f64 (canonOf l)]) ∧ Below w.heap.size w w' := by
  have g1 := f_mul h1
  have g2 := f_sub h2
  have g3 := f_sub h3
  have g4 := f_sub h4
  have HC1 := hid (fun (W : World) => Canon_any h W hs)
  have HC2 := hid (fun (W : World) => Canon_any l W he)
  obtain ⟨S, hS⟩ : ∃ S, Hid (canonOf h = S) := ⟨_, rfl⟩
  obtain ⟨E, hE⟩ : ∃ E, Hid (canonOf l = E) := ⟨_, rfl⟩
  rw [hS.out] at HC1 ⊢
  rw [hE.out] at HC2 ⊢
  clear h1 h2 h3 h4 hs he
  go_enter Tryz.func11, Tryz.ntmps11
  go_wp2_with fail
  refine (HC1.out _).mono ?_
  rintro r w1 ⟨rfl, hb1⟩
  have HB1 := hid hb1
  clear hb1
  go_wp2_with fail
  refine (HC2.out _).mono ?_
  rintro r w2 ⟨rfl, hb2⟩
  have HB2 := hid (HB1.out.trans (hb2.mono HB1.out.size))
  clear hb2
  go_wp2
  go_ret2
  exact ⟨rfl, HB2.out⟩
set_option maxHeartbeats 1000000 in
theorem Prod_at (a b p h l i k q1 q2 q3 q4 q5 q6 q7 e : Nat) (w : World) (h1 : FloatKind.f64.format.mul a b = some p)
    (hA : ∀ W, Calls Tryz.prog 11 #[.float .f64 a] W fun r w' => r = .returned (.tuple #[.float .f64 h, .float .f64 l]) ∧ Below W.heap.size W w')
    (hB : ∀ W, Calls Tryz.prog 11 #[.float .f64 b] W fun r w' => r = .returned (.tuple #[.float .f64 i, .float .f64 k]) ∧ Below W.heap.size W w')
    (h2 : FloatKind.f64.format.mul l k = some q1) (h3 : FloatKind.f64.format.mul h i = some q2) (h4 : FloatKind.f64.format.sub p q2 = some q3) (h5 : FloatKind.f64.format.mul l i = some q4) (h6 : FloatKind.f64.format.sub q3 q4 = some q5) (h7 : FloatKind.f64.format.mul h k = some q6) (h8 : FloatKind.f64.format.sub q5 q6 = some q7) (h9 : FloatKind.f64.format.sub q1 q7 = some e) (hs : p < 18446744073709551616) (he : e < 18446744073709551616) :
    Calls Tryz.prog 13 #[.float .f64 a, .float .f64 b] w fun r w' => r = .returned (.tuple #[.float .f64 (canonOf p), .float .f64 (canonOf e)]) ∧ Below w.heap.size w w' := by
  have g1 := f_mul h1
  have g2 := f_mul h2
  have g3 := f_mul h3
  have g4 := f_sub h4
  have g5 := f_mul h5
  have g6 := f_sub h6
  have g7 := f_mul h7
  have g8 := f_sub h8
  have g9 := f_sub h9
  have HA := hid hA
  have HBB := hid hB
  have HC1 := hid (fun (W : World) => Canon_any p W hs)
  have HC2 := hid (fun (W : World) => Canon_any e W he)
  obtain ⟨S, hS⟩ : ∃ S, Hid (canonOf p = S) := ⟨_, rfl⟩
  obtain ⟨E, hE⟩ : ∃ E, Hid (canonOf e = E) := ⟨_, rfl⟩
  rw [hS.out] at HC1 ⊢
  rw [hE.out] at HC2 ⊢
  clear h1 h2 h3 h4 h5 h6 h7 h8 h9 hs he hA hB
  go_enter Tryz.func13, Tryz.ntmps13
  go_wp2_with fail
  refine (HA.out _).mono ?_
  rintro r w1 ⟨rfl, hb1⟩
  have HB1 := hid hb1
  clear hb1
  go_wp2_with fail
  refine (HBB.out _).mono ?_
  rintro r w2 ⟨rfl, hb2⟩
  have HB2 := hid (HB1.out.trans (hb2.mono HB1.out.size))
  clear hb2
  go_wp2_with fail
  refine (HC1.out _).mono ?_
  rintro r w3 ⟨rfl, hb3⟩
  have HB3 := hid (HB2.out.trans (hb3.mono HB2.out.size))
  clear hb3
  go_wp2_with fail
  refine (HC2.out _).mono ?_
  rintro r w4 ⟨rfl, hb4⟩
  have HB4 := hid (HB3.out.trans (hb4.mono HB3.out.size))
  clear hb4
  go_wp2
  go_ret2
  exact ⟨rfl, HB4.out⟩
end Go.Proofs.YtijadahpddmhjaaGreatDoor

namespace Go.Proofs.YtijadahpddmhjaaGreatDoor
open Go.RowKit Go.IntWalk

theorem o1 : (FloatKind.f64.format.order 4607182418800017408 0 == some .eq) = false ∧ (FloatKind.f64.format.order 4607182418800017408 4607182418800017408 != some .eq) = false ∧ (FloatKind.f64.format.order 4607182418800017408 9218868437227405311 == some .gt) = false ∧ (FloatKind.f64.format.order 4607182418800017408 4503599627370496 == some .lt) = false := by decide +kernel
theorem f64fromI3 (n : Int) (w : World) : (callFunc 30 #[.int .u64 n]).run Tryz.prog w = .ok (.value (.float .f64 n.toNat)) w := by
  rw [run_callFunc_extern Tryz.func30 (by kernel_rfl) (by kernel_rfl) (by kernel_rfl) (e := Extern.MathFloatBits.float64frombits) (by kernel_rfl)]; rfl
theorem bt1 : bits .andNot .u64 4607182418800017408 9223372036854775808 = 4607182418800017408 ∧ bits .and .i64 1023 2047 = 1023 ∧ bits .andNot .u64 4607182418800017408 9218868437227405312 = 0 ∧ bits .or .u64 0 4877398396442247168 = 4877398396442247168 := by decide +kernel
set_option maxHeartbeats 1000000 in
theorem abs_one (w : World) : Calls Tryz.prog 44 #[.float .f64 4607182418800017408] w fun r w' => r = .returned (.float .f64 4607182418800017408) ∧ w' = w := by
  have h1 := f64bits
  have h2 := f64fromI3
  obtain ⟨b1, _⟩ := bt1
  go_enter Tryz.func44, Tryz.ntmps44
  go_wp2
  go_ret
  exact ⟨rfl, rfl⟩
set_option maxHeartbeats 1000000 in
theorem ldexp_60 (w : World) : Calls Tryz.prog 74 #[.float .f64 4607182418800017408, .int .i64 60] w fun r w' => r = .returned (.float .f64 4877398396442247168) ∧ w' = w := by
  obtain ⟨g1, g2, g3, g4⟩ := o1
  obtain ⟨b1, b2, b3, b4⟩ := bt1
  have h1 := f64bits
  have h2 := f64fromI3
  have hm := f_mul (x := 4607182418800017408) (y := 4877398396442247168) (z := 4877398396442247168) (by decide +kernel)
  have c0 : wrap64 0 = 0 := by decide +kernel
  have c1 : wrap64 60 = 60 := by decide +kernel
  go_enter Tryz.func74, Tryz.ntmps74
  go_wp2
  go_ret
  exact ⟨rfl, rfl⟩
set_option maxHeartbeats 1000000 in
theorem Ldexp_60 (w : World) : Calls Tryz.prog 45 #[.float .f64 4607182418800017408, .int .i64 60] w fun r w' => r = .returned (.float .f64 4877398396442247168) ∧ w' = w := by
  go_enter Tryz.func45, Tryz.ntmps45
  go_wp2_with fail
  refine (ldexp_60 _).mono ?_
  rintro r w1 ⟨rfl, rfl⟩
  go_wp2
  go_ret
  exact ⟨rfl, rfl⟩
end Go.Proofs.YtijadahpddmhjaaGreatDoor

namespace Go.Proofs.YtijadahpddmhjaaGreatDoor
open Go.RowKit Go.IntWalk

/-- A NaN's bits. -/
def NaNW (x : Nat) : Prop := x < 18446744073709551616 ∧ 9218868437227405312 < x % 9223372036854775808
/-- The NaN that is drawn. -/
def nanF (x y : Nat) (w : World) : Nat := (Question.nanBits .f64 x y).cut (w.tape w.drawn (Question.nanBits .f64 x y))
theorem nan_form (a b : Nat) (ha : a < 2) (hb : b < 2 ^ 52 - 1) : a * 2 ^ 63 + 0x7ff0000000000000 + 1 + b < 18446744073709551616 ∧ 9218868437227405312 < (a * 2 ^ 63 + 0x7ff0000000000000 + 1 + b) % 9223372036854775808 := by
  obtain h | h : a = 0 ∨ a = 1 := by omega
  all_goals (subst h; omega)
theorem nanF_nan (x y : Nat) (w : World) : NaNW (nanF x y w) := by
  show (_ % 2) * 2 ^ 63 + 0x7ff0000000000000 + 1 + (_ / 2) % (2 ^ 52 - 1) < 18446744073709551616 ∧ 9218868437227405312 < ((_ % 2) * 2 ^ 63 + 0x7ff0000000000000 + 1 + (_ / 2) % (2 ^ 52 - 1)) % 9223372036854775808
  exact nan_form _ _ (Nat.mod_lt _ (by decide)) (Nat.mod_lt _ (by decide))
theorem nan_run (op : BinOp) (x y : Nat) (hop : op = .add ∨ op = .sub ∨ op = .mul ∨ op = .quo) (h : floatBits op .f64 x y = none) (t : TypeId) (w : World) : (binOp op t (.float .f64 x) (.float .f64 y)).run Tryz.prog w = .ok (.float .f64 (nanF x y w)) w.drew := by
  unfold floatBits at h
  unfold nanF
  rcases hop with rfl | rfl | rfl | rfl <;> simp only at h <;> simp [binOp, Op.floatArith, h, Question.forced]
theorem nan_l (x y : Nat) (h : NaNW x) : FloatKind.f64.format.add x y = none ∧ FloatKind.f64.format.sub x y = none ∧ FloatKind.f64.format.mul x y = none := by
  obtain ⟨s, t, e⟩ := read_nan x h.2
  unfold Ieee.Format.add Ieee.Format.sub Ieee.Format.mul
  rw [e]
  exact ⟨rfl, rfl, rfl⟩
theorem nan_r (x y : Nat) (h : NaNW y) : FloatKind.f64.format.add x y = none ∧ FloatKind.f64.format.sub x y = none ∧ FloatKind.f64.format.mul x y = none := by
  obtain ⟨s, t, e⟩ := read_nan y h.2
  unfold Ieee.Format.add Ieee.Format.sub Ieee.Format.mul
  rw [e]
  refine ⟨?_, ?_, ?_⟩ <;> cases FloatKind.f64.format.read x <;> rfl
theorem canon_nan {x : Nat} (h : NaNW x) : canonOf x = 9221120237041090561 := by unfold canonOf; rw [if_pos h.2]
theorem sign_top (s : Bool) (r : Nat) (h : r ≤ 9218868437227405312) : signN s r < 18446744073709551616 := (signN_mod s r (by omega)).2.2
theorem write_lt (d : Ieee.Datum) (h : ∀ s t, d ≠ .nan s t) : FloatKind.f64.format.write d < 18446744073709551616 := by
  cases d with
  | nan s t => exact absurd rfl (h s t)
  | infinity s => cases s <;> decide +kernel
  | number s m p =>
    show FloatKind.f64.format.nearest s m p < _
    rw [(near_rnd s m p).1]
    exact sign_top s _ (near_rnd s m p).2
theorem sum_nn (a b d : Ieee.Datum) (h : a.sum b = some d) : ∀ s t, d ≠ .nan s t := by
  intro s t hd
  subst hd
  cases a <;> cases b <;> simp [Ieee.Datum.sum] at h
theorem prod_nn (a b d : Ieee.Datum) (h : a.product b = some d) : ∀ s t, d ≠ .nan s t := by
  intro s t hd
  subst hd
  cases a <;> cases b <;> simp [Ieee.Datum.product] at h
theorem ar_lt {x y z : Nat} (h : FloatKind.f64.format.add x y = some z ∨ FloatKind.f64.format.sub x y = some z ∨ FloatKind.f64.format.mul x y = some z) : z < 18446744073709551616 := by
  rcases h with h | h | h
  · unfold Ieee.Format.add at h
    obtain ⟨d, hd, rfl⟩ := Option.map_eq_some_iff.1 h
    exact write_lt d (sum_nn _ _ d hd)
  · unfold Ieee.Format.sub at h
    obtain ⟨d, hd, rfl⟩ := Option.map_eq_some_iff.1 h
    exact write_lt d (sum_nn _ _ d hd)
  · unfold Ieee.Format.mul at h
    obtain ⟨d, hd, rfl⟩ := Option.map_eq_some_iff.1 h
    exact write_lt d (prod_nn _ _ d hd)
end Go.Proofs.YtijadahpddmhjaaGreatDoor

namespace Go.Proofs.YtijadahpddmhjaaGreatDoor
open Go.RowKit Go.IntWalk

/-- The bits of a sum, difference, product: where there is none, a NaN that is drawn. -/
def arF (op : BinOp) (x y : Nat) (w : World) : Nat := (floatBits op .f64 x y).getD (nanF x y w)
def arG (op : BinOp) (x y : Nat) (w : World) : World := if (floatBits op .f64 x y).isSome then w else w.drew
/-- The same of canonical numbers. -/
def caf (op : BinOp) (x y : Nat) : Nat := ((floatBits op .f64 x y).map canonOf).getD 9221120237041090561
theorem ar_run (op : BinOp) (hop : op = .add ∨ op = .sub ∨ op = .mul) (x y : Nat) (w : World) : (binOp op 23 (.float .f64 x) (.float .f64 y)).run Tryz.prog w = .ok (.float .f64 (arF op x y w)) (arG op x y w) := by
  unfold arF arG
  cases h : floatBits op .f64 x y with
  | none =>
    have := nan_run op x y (by rcases hop with h | h | h <;> simp [h]) h 23 w
    simpa using this
  | some z =>
    simp only [Option.getD_some, Option.isSome_some, if_true]
    rcases hop with rfl | rfl | rfl <;> exact run_float_arith w _ _ .f64 x y z h
theorem arG_heap (op : BinOp) (x y : Nat) (w : World) : (arG op x y w).heap = w.heap := by unfold arG; split <;> rfl
theorem bl_ar {B : Nat} {w W : World} (h : Below B w W) (op : BinOp) (x y : Nat) : Below B w (arG op x y W) := by
  unfold arG
  split
  · exact h
  · exact h.drew
theorem fb_lt {op : BinOp} (hop : op = .add ∨ op = .sub ∨ op = .mul) {x y z : Nat} (h : floatBits op .f64 x y = some z) : z < 18446744073709551616 := by
  rcases hop with rfl | rfl | rfl
  · exact ar_lt (Or.inl h)
  · exact ar_lt (Or.inr (Or.inl h))
  · exact ar_lt (Or.inr (Or.inr h))
theorem arF_lt {op : BinOp} (hop : op = .add ∨ op = .sub ∨ op = .mul) (x y : Nat) (w : World) : arF op x y w < 18446744073709551616 := by
  unfold arF
  cases h : floatBits op .f64 x y with
  | none => exact (nanF_nan x y w).1
  | some z => exact fb_lt hop h
theorem fb_nan {op : BinOp} (hop : op = .add ∨ op = .sub ∨ op = .mul) {x y : Nat} (h : NaNW x ∨ NaNW y) : floatBits op .f64 x y = none := by
  rcases h with h | h
  · obtain ⟨h1, h2, h3⟩ := nan_l x y h
    rcases hop with rfl | rfl | rfl
    · exact h1
    · exact h2
    · exact h3
  · obtain ⟨h1, h2, h3⟩ := nan_r x y h
    rcases hop with rfl | rfl | rfl
    · exact h1
    · exact h2
    · exact h3
theorem canon_is (x : Nat) (hx : x < 18446744073709551616) : (NaNW x ∧ canonOf x = 9221120237041090561) ∨ (¬ NaNW x ∧ canonOf x = x) := by
  by_cases h : 9218868437227405312 < x % 9223372036854775808
  · exact Or.inl ⟨⟨hx, h⟩, canon_nan ⟨hx, h⟩⟩
  · exact Or.inr ⟨fun c => h c.2, by unfold canonOf; rw [if_neg h]⟩
theorem nan_can : NaNW 9221120237041090561 := by unfold NaNW; decide
/-- The canonical answer hangs on the canonical numbers alone. -/
theorem canon_ar {op : BinOp} (hop : op = .add ∨ op = .sub ∨ op = .mul) (x y : Nat) (w : World) (hx : x < 18446744073709551616) (hy : y < 18446744073709551616) : canonOf (arF op x y w) = caf op (canonOf x) (canonOf y) := by
  unfold arF caf
  have key : ∀ {u v : Nat}, NaNW u ∨ NaNW v → ((floatBits op .f64 u v).map canonOf).getD 9221120237041090561 = 9221120237041090561 := fun h => by rw [fb_nan hop h]; rfl
  rcases canon_is x hx with ⟨n1, e1⟩ | ⟨n1, e1⟩
  · rw [e1, key (Or.inl nan_can), fb_nan hop (Or.inl n1)]
    exact canon_nan (nanF_nan x y w)
  · rcases canon_is y hy with ⟨n2, e2⟩ | ⟨n2, e2⟩
    · rw [e2, key (Or.inr nan_can), fb_nan hop (Or.inr n2)]
      exact canon_nan (nanF_nan x y w)
    · rw [e1, e2]
      cases h : floatBits op .f64 x y with
      | none => exact canon_nan (nanF_nan x y w)
      | some z => rfl
theorem ok_a : BinOp.add = .add ∨ BinOp.add = .sub ∨ BinOp.add = .mul := Or.inl rfl
theorem ok_s : BinOp.sub = .add ∨ BinOp.sub = .sub ∨ BinOp.sub = .mul := Or.inr (Or.inl rfl)
theorem ok_m : BinOp.mul = .add ∨ BinOp.mul = .sub ∨ BinOp.mul = .mul := Or.inr (Or.inr rfl)
/-- The two answers of Two, of Quick, of Split, of canonical numbers. -/
def twoS (a b : Nat) : Nat := caf .add a b
def twoE (a b : Nat) : Nat := caf .add (caf .sub a (caf .sub (twoS a b) (caf .sub (twoS a b) a))) (caf .sub b (caf .sub (twoS a b) a))
def quickE (a b : Nat) : Nat := caf .sub b (caf .sub (twoS a b) a)
def splitH (a : Nat) : Nat := caf .sub (caf .mul 4728779608772575232 a) (caf .sub (caf .mul 4728779608772575232 a) a)
def splitL (a : Nat) : Nat := caf .sub a (splitH a)
theorem canon_k : canonOf 4728779608772575232 = 4728779608772575232 := by decide
set_option maxHeartbeats 1000000 in
theorem Two_can (a b : Nat) (w : World) (ha : a < 18446744073709551616) (hb : b < 18446744073709551616) :
    Calls Tryz.prog 6 #[.float .f64 a, .float .f64 b] w fun r w' => r = .returned (.tuple #[.float .f64 (twoS (canonOf a) (canonOf b)), .float .f64 (twoE (canonOf a) (canonOf b))]) ∧ Below w.heap.size w w' := by
  have r1 := ar_run .add ok_a
  have r2 := ar_run .sub ok_s
  have r3 := ar_run .mul ok_m
  go_enter Tryz.func6, Tryz.ntmps6
  go_wp2_with fail
  refine (Canon_any _ _ (arF_lt ok_a _ _ _)).mono ?_
  rintro r w1 ⟨rfl, hb1⟩
  have HB1 : Hid (Below w.heap.size w w1) := by
    refine Below.trans ?_ (hb1.mono ?_)
    · repeat' (first | exact Below.refl _ _ | refine bl_ar ?_ _ _ _)
    · simp only [arG_heap]; exact Nat.le_refl _
  clear hb1
  go_wp2_with fail
  refine (Canon_any _ _ (arF_lt ok_a _ _ _)).mono ?_
  rintro r w2 ⟨rfl, hb2⟩
  have HB2 := hid (HB1.out.trans (hb2.mono HB1.out.size))
  clear hb2
  go_wp2
  go_ret2
  refine ⟨?_, HB2.out⟩
  simp only [twoS, twoE]
  simp [canon_ar, arF_lt, ha, hb]
set_option maxHeartbeats 1000000 in
theorem Quick_can (a b : Nat) (w : World) (ha : a < 18446744073709551616) (hb : b < 18446744073709551616) :
    Calls Tryz.prog 9 #[.float .f64 a, .float .f64 b] w fun r w' => r = .returned (.tuple #[.float .f64 (twoS (canonOf a) (canonOf b)), .float .f64 (quickE (canonOf a) (canonOf b))]) ∧ Below w.heap.size w w' := by
  have r1 := ar_run .add ok_a
  have r2 := ar_run .sub ok_s
  have r3 := ar_run .mul ok_m
  go_enter Tryz.func9, Tryz.ntmps9
  go_wp2_with fail
  refine (Canon_any _ _ (arF_lt ok_a _ _ _)).mono ?_
  rintro r w1 ⟨rfl, hb1⟩
  have HB1 : Hid (Below w.heap.size w w1) := by
    refine Below.trans ?_ (hb1.mono ?_)
    · repeat' (first | exact Below.refl _ _ | refine bl_ar ?_ _ _ _)
    · simp only [arG_heap]; exact Nat.le_refl _
  clear hb1
  go_wp2_with fail
  refine (Canon_any _ _ (arF_lt ok_s _ _ _)).mono ?_
  rintro r w2 ⟨rfl, hb2⟩
  have HB2 := hid (HB1.out.trans (hb2.mono HB1.out.size))
  clear hb2
  go_wp2
  go_ret2
  refine ⟨?_, HB2.out⟩
  simp only [twoS, quickE]
  simp [canon_ar, arF_lt, ha, hb]
set_option maxHeartbeats 1000000 in
theorem Split_can (a : Nat) (w : World) (ha : a < 18446744073709551616) :
    Calls Tryz.prog 11 #[.float .f64 a] w fun r w' => r = .returned (.tuple #[.float .f64 (splitH (canonOf a)), .float .f64 (splitL (canonOf a))]) ∧ Below w.heap.size w w' := by
  have r1 := ar_run .add ok_a
  have r2 := ar_run .sub ok_s
  have r3 := ar_run .mul ok_m
  go_enter Tryz.func11, Tryz.ntmps11
  go_wp2_with fail
  refine (Canon_any _ _ (arF_lt ok_s _ _ _)).mono ?_
  rintro r w1 ⟨rfl, hb1⟩
  have HB1 : Hid (Below w.heap.size w w1) := by
    refine Below.trans ?_ (hb1.mono ?_)
    · repeat' (first | exact Below.refl _ _ | refine bl_ar ?_ _ _ _)
    · simp only [arG_heap]; exact Nat.le_refl _
  clear hb1
  go_wp2_with fail
  refine (Canon_any _ _ (arF_lt ok_s _ _ _)).mono ?_
  rintro r w2 ⟨rfl, hb2⟩
  have HB2 := hid (HB1.out.trans (hb2.mono HB1.out.size))
  clear hb2
  go_wp2
  go_ret2
  refine ⟨?_, HB2.out⟩
  simp only [splitH, splitL]
  simp [canon_ar, arF_lt, ha, canon_k]
theorem canon_twice (x : Nat) : canonOf (canonOf x) = canonOf x := by
  unfold canonOf
  by_cases h : 9218868437227405312 < x % 9223372036854775808
  · rw [if_pos h]; decide
  · rw [if_neg h, if_neg h]
theorem caf_can (op : BinOp) (x y : Nat) : canonOf (caf op x y) = caf op x y := by
  unfold caf
  cases floatBits op .f64 x y with
  | none => decide
  | some z => exact canon_twice z
theorem caf_lt (op : BinOp) (hop : op = .add ∨ op = .sub ∨ op = .mul) (x y : Nat) : caf op x y < 18446744073709551616 := by
  unfold caf
  cases h : floatBits op .f64 x y with
  | none => decide
  | some z => exact canon_lt (fb_lt hop h)
def prodE (a b : Nat) : Nat := caf .sub (caf .mul (splitL a) (splitL b)) (caf .sub (caf .sub (caf .sub (caf .mul a b) (caf .mul (splitH a) (splitH b))) (caf .mul (splitL a) (splitH b))) (caf .mul (splitH a) (splitL b)))
theorem split_can (a : Nat) : canonOf (splitH a) = splitH a ∧ canonOf (splitL a) = splitL a ∧ splitH a < 18446744073709551616 ∧ splitL a < 18446744073709551616 := ⟨caf_can _ _ _, caf_can _ _ _, caf_lt _ ok_s _ _, caf_lt _ ok_s _ _⟩
set_option maxHeartbeats 1000000 in
theorem Prod_can (a b : Nat) (w : World) (ha : a < 18446744073709551616) (hb : b < 18446744073709551616) :
    Calls Tryz.prog 13 #[.float .f64 a, .float .f64 b] w fun r w' => r = .returned (.tuple #[.float .f64 (caf .mul (canonOf a) (canonOf b)), .float .f64 (prodE (canonOf a) (canonOf b))]) ∧ Below w.heap.size w w' := by
  have r2 := ar_run .sub ok_s
  have r3 := ar_run .mul ok_m
  have HSA := hid (fun (W : World) => Split_can a W ha)
  have HSB := hid (fun (W : World) => Split_can b W hb)
  obtain ⟨p1, p2, p3, p4⟩ := split_can (canonOf a)
  obtain ⟨q1, q2, q3, q4⟩ := split_can (canonOf b)
  have HE : Hid (prodE (canonOf a) (canonOf b) = prodE (canonOf a) (canonOf b)) := rfl
  unfold prodE at HE
  obtain ⟨h, hh⟩ : ∃ h, Hid (splitH (canonOf a) = h) := ⟨_, rfl⟩
  obtain ⟨l, hl⟩ : ∃ h, Hid (splitL (canonOf a) = h) := ⟨_, rfl⟩
  obtain ⟨i, hi⟩ : ∃ h, Hid (splitH (canonOf b) = h) := ⟨_, rfl⟩
  obtain ⟨k, hk⟩ : ∃ h, Hid (splitL (canonOf b) = h) := ⟨_, rfl⟩
  unfold prodE
  simp only [hh.out, hl.out] at HSA p1 p2 p3 p4
  simp only [hi.out, hk.out] at HSB q1 q2 q3 q4
  rw [hh.out, hl.out, hi.out, hk.out]
  clear HE
  go_enter Tryz.func13, Tryz.ntmps13
  go_wp2_with fail
  refine (HSA.out _).mono ?_
  rintro r w1 ⟨rfl, hb1⟩
  have HB1 : Hid (Below w.heap.size w w1) := by
    refine Below.trans ?_ (hb1.mono ?_)
    · repeat' (first | exact Below.refl _ _ | refine bl_ar ?_ _ _ _)
    · simp only [arG_heap]; exact Nat.le_refl _
  clear hb1
  go_wp2_with fail
  refine (HSB.out _).mono ?_
  rintro r w2 ⟨rfl, hb2⟩
  have HB2 := hid (HB1.out.trans (hb2.mono HB1.out.size))
  clear hb2
  go_wp2_with fail
  refine (Canon_any _ _ (arF_lt ok_m _ _ _)).mono ?_
  rintro r w3 ⟨rfl, hb3⟩
  have HB3 : Hid (Below w.heap.size w w3) := by
    refine Below.trans ?_ (hb3.mono ?_)
    · repeat' (first | exact HB2.out | refine bl_ar ?_ _ _ _)
    · simp only [arG_heap]; exact HB2.out.size
  clear hb3
  go_wp2_with fail
  refine (Canon_any _ _ (arF_lt ok_s _ _ _)).mono ?_
  rintro r w4 ⟨rfl, hb4⟩
  have HB4 := hid (HB3.out.trans (hb4.mono HB3.out.size))
  clear hb4
  go_wp2
  go_ret2
  refine ⟨?_, HB4.out⟩
  simp [canon_ar, arF_lt, ha, hb, p1, p2, p3, p4, q1, q2, q3, q4]
set_option maxHeartbeats 1000000 in
theorem rTwo_can (a b : Nat) (w : World) (ha : a < 18446744073709551616) (hb : b < 18446744073709551616) :
    Calls Tryz.prog 7 #[.float .f64 a, .float .f64 b] w fun r w' => ∃ s e, r = .returned (.tuple #[.float .f64 s, .float .f64 e]) ∧ canonOf s = twoS (canonOf a) (canonOf b) ∧ canonOf e = twoE (canonOf a) (canonOf b) ∧ s < 18446744073709551616 ∧ e < 18446744073709551616 ∧ Below w.heap.size w w' := by
  have r1 := ar_run .add ok_a
  have r2 := ar_run .sub ok_s
  have r3 := ar_run .mul ok_m
  go_enter Tryz.func7, Tryz.ntmps7
  go_wp2
  go_ret2
  refine ⟨_, _, rfl, ?_, ?_, ?_, ?_, ?_⟩
  · simp [twoS, canon_ar, ha, hb]
  · simp [twoS, twoE, canon_ar, arF_lt, ha, hb]
  · simp [arF_lt]
  · simp [arF_lt]
  · repeat' (first | exact Below.refl _ _ | refine bl_ar ?_ _ _ _)
set_option maxHeartbeats 1000000 in
theorem rQuick_can (a b : Nat) (w : World) (ha : a < 18446744073709551616) (hb : b < 18446744073709551616) :
    Calls Tryz.prog 10 #[.float .f64 a, .float .f64 b] w fun r w' => ∃ s e, r = .returned (.tuple #[.float .f64 s, .float .f64 e]) ∧ canonOf s = twoS (canonOf a) (canonOf b) ∧ canonOf e = quickE (canonOf a) (canonOf b) ∧ s < 18446744073709551616 ∧ e < 18446744073709551616 ∧ Below w.heap.size w w' := by
  have r1 := ar_run .add ok_a
  have r2 := ar_run .sub ok_s
  have r3 := ar_run .mul ok_m
  go_enter Tryz.func10, Tryz.ntmps10
  go_wp2
  go_ret2
  refine ⟨_, _, rfl, ?_, ?_, ?_, ?_, ?_⟩
  · simp [twoS, canon_ar, ha, hb]
  · simp [twoS, quickE, canon_ar, arF_lt, ha, hb]
  · simp [arF_lt]
  · simp [arF_lt]
  · repeat' (first | exact Below.refl _ _ | refine bl_ar ?_ _ _ _)
set_option maxHeartbeats 1000000 in
theorem rSplit_can (a : Nat) (w : World) (ha : a < 18446744073709551616) :
    Calls Tryz.prog 12 #[.float .f64 a] w fun r w' => ∃ s e, r = .returned (.tuple #[.float .f64 s, .float .f64 e]) ∧ canonOf s = splitH (canonOf a) ∧ canonOf e = splitL (canonOf a) ∧ s < 18446744073709551616 ∧ e < 18446744073709551616 ∧ Below w.heap.size w w' := by
  have r1 := ar_run .add ok_a
  have r2 := ar_run .sub ok_s
  have r3 := ar_run .mul ok_m
  go_enter Tryz.func12, Tryz.ntmps12
  go_wp2
  go_ret2
  refine ⟨_, _, rfl, ?_, ?_, ?_, ?_, ?_⟩
  · simp [splitH, canon_ar, arF_lt, ha, canon_k]
  · simp [splitH, splitL, canon_ar, arF_lt, ha, canon_k]
  · simp [arF_lt]
  · simp [arF_lt]
  · repeat' (first | exact Below.refl _ _ | refine bl_ar ?_ _ _ _)
set_option maxHeartbeats 1000000 in
theorem rProd_can (a b : Nat) (w : World) (ha : a < 18446744073709551616) (hb : b < 18446744073709551616) :
    Calls Tryz.prog 14 #[.float .f64 a, .float .f64 b] w fun r w' => ∃ s e, r = .returned (.tuple #[.float .f64 s, .float .f64 e]) ∧ canonOf s = caf .mul (canonOf a) (canonOf b) ∧ canonOf e = prodE (canonOf a) (canonOf b) ∧ s < 18446744073709551616 ∧ e < 18446744073709551616 ∧ Below w.heap.size w w' := by
  have r2 := ar_run .sub ok_s
  have r3 := ar_run .mul ok_m
  have HSA := hid (fun (W : World) => rSplit_can a W ha)
  have HSB := hid (fun (W : World) => rSplit_can b W hb)
  go_enter Tryz.func14, Tryz.ntmps14
  go_wp2_with fail
  refine (HSA.out _).mono ?_
  rintro r w1 ⟨h, l, rfl, p1, p2, p3, p4, hb1⟩
  have HB1 : Hid (Below w.heap.size w w1) := by
    refine Below.trans ?_ (hb1.mono ?_)
    · repeat' (first | exact Below.refl _ _ | refine bl_ar ?_ _ _ _)
    · simp only [arG_heap]; exact Nat.le_refl _
  clear hb1
  go_wp2_with fail
  refine (HSB.out _).mono ?_
  rintro r w2 ⟨i, k, rfl, q1, q2, q3, q4, hb2⟩
  have HB2 := hid (HB1.out.trans (hb2.mono HB1.out.size))
  clear hb2
  go_wp2
  go_ret2
  refine ⟨_, _, rfl, ?_, ?_, ?_, ?_, ?_⟩
  · simp [canon_ar, ha, hb]
  · simp [prodE, canon_ar, arF_lt, ha, hb, p1, p2, p3, p4, q1, q2, q3, q4]
  · simp [arF_lt]
  · simp [arF_lt]
  · repeat' (first | exact HB2.out | refine bl_ar ?_ _ _ _)
end Go.Proofs.YtijadahpddmhjaaGreatDoor
