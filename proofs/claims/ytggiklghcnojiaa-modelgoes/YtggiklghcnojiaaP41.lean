
/- Seconds of any ticks: model's, and the document's. -/
import Derived.Test.YtggiklghcnojiaaP40
import Derived.Test.YtggiklghcnojiaaP28
import Derived.Test.YtggiklghcnojiaaP32
namespace Go.Proofs.Ytggiklghcnojiaa
open Go.RowKit Go.IntWalk

/-- Ticks as a number. -/
theorem ofInt_most (t : Int) (h1 : -1125899906842624 ≤ t) (h2 : t ≤ 1125899906842624) : floatOfInt .f64 t < 18446744073709551616 ∧ floatOfInt .f64 t % 9223372036854775808 ≤ twoW 1073 ∧ (0 ≤ t → floatOfInt .f64 t < 9223372036854775808) := by
  have e : floatOfInt .f64 t = signN (decide (t < 0)) (rndM t.natAbs 0) := (near_rnd _ _ _).1
  have hr : rndM t.natAbs 0 ≤ twoW 1073 := by
    have a := rnd_rise (m1 := t.natAbs) (m2 := 1125899906842624) 0 (by decide) (by omega)
    have b : rndM 1125899906842624 0 = twoW 1073 := by decide +kernel
    rw [b] at a
    exact a
  have hw : twoW 1073 < 9218868437227405312 := by decide
  rw [e]
  unfold signN
  by_cases s : t < 0
  · simp [s]; omega
  · simp [s]; omega
theorem read_mio : FloatKind.f64.format.read 4696837146684686336 = .number false 8589934592000000 (-((33 : Nat) : Int)) := by decide +kernel
/-- Seconds. -/
def secW (t : Int) : Nat := (floatBits .quo .f64 (floatOfInt .f64 t) 4696837146684686336).getD 0
theorem sec_is (t : Int) (h1 : -1125899906842624 ≤ t) (h2 : t ≤ 1125899906842624) : floatBits .quo .f64 (floatOfInt .f64 t) 4696837146684686336 = some (secW t) ∧ secW t < 18446744073709551616 ∧ secW t % 9223372036854775808 ≤ twoW 1073 ∧ (0 ≤ t → secW t < 9223372036854775808) := by
  obtain ⟨a1, a2, a3⟩ := ofInt_most t h1 h2
  have hw : twoW 1073 < 9218868437227405312 := by decide
  obtain ⟨z, e1, e2, e3, e4⟩ := div_most (floatOfInt .f64 t) 4696837146684686336 8589934592000000 33 a1 (by omega) read_mio (by decide) (by decide) (by decide)
  have e5 : secW t = z := by unfold secW; rw [e1]; rfl
  rw [e5]
  refine ⟨e1, e2, Nat.le_trans e3 a2, fun h => ?_⟩
  have := a3 h
  omega
def seE2 (t : Int) : Int := if t < -1125899906842624 ∨ 1125899906842624 < t then 1 else 0
def seV (t : Int) : Nat := if t < -1125899906842624 ∨ 1125899906842624 < t then 0 else secW t
set_option maxHeartbeats 1000000 in
theorem Seconds_any (t : Int) (w : World) : Calls Try.prog 13 #[.int .i64 t] w fun r w' => r = .returned (.tuple #[.float .f64 (seV t), .int .i64 (seE2 t)]) ∧ w' = w := by
  unfold seV seE2
  by_cases h1 : t < -1125899906842624
  · rw [if_pos (Or.inl h1), if_pos (Or.inl h1)]
    go_enter Try.func13, Try.ntmps13
    go_wp2_with fail
    exact bodyPost_ret (v := .tuple #[.float .f64 0, .int .i64 1]) (by simp [results, Try.results13, go_sem]) rfl ⟨rfl, rfl⟩
  by_cases h2 : 1125899906842624 < t
  · rw [if_pos (Or.inr h2), if_pos (Or.inr h2)]
    go_enter Try.func13, Try.ntmps13
    go_wp2_with fail
    exact bodyPost_ret (v := .tuple #[.float .f64 0, .int .i64 1]) (by simp [results, Try.results13, go_sem]) rfl ⟨rfl, rfl⟩
  rw [if_neg (fun h => h.elim h1 h2), if_neg (fun h => h.elim h1 h2)]
  obtain ⟨e1, _⟩ := sec_is t (by omega) (by omega)
  have hq := arq_run .quo (floatOfInt .f64 t) 4696837146684686336 (secW t) e1 (by simp)
  clear e1
  go_enter Try.func13, Try.ntmps13
  go_wp2_with fail
  exact bodyPost_ret (v := .tuple #[.float .f64 (secW t), .int .i64 0]) (by simp [results, Try.results13, go_sem]) rfl ⟨rfl, rfl⟩
end Go.Proofs.Ytggiklghcnojiaa

namespace Go.Proofs.Ytggiklghcnojiaa
open Go.RowKit Go.IntWalk

def BlO (l : List Nat) : Obj := .cells (l.map (Value.float .f64)).toArray 38
/-- A list of numbers, new. -/
def BlR (l : List Nat) (w : World) (r : Ending) (w' : World) : Prop := ∃ g, r = .returned (.slice (some ⟨g, 0, none⟩) l.length l.length) ∧ w'.heap[g]? = some (BlO l) ∧ w.heap.size ≤ g ∧ Below w.heap.size w w'
theorem blr {l : List Nat} {w W : World} (h : Below w.heap.size w W) : BlR l w (.returned (.slice (some ⟨W.heap.size, 0, none⟩) l.length l.length)) (W.alloc (BlO l)) := ⟨_, rfl, nblkM _ _, h.size, h.alloc h.size _⟩
theorem blr1 {l : List Nat} {w : World} (o : Obj) : BlR l w (.returned (.slice (some ⟨w.heap.size + 1, 0, none⟩) l.length l.length)) ((w.alloc o).alloc (BlO l)) := by
  have := blr (l := l) (W := w.alloc o) ((Below.refl _ _).alloc (Nat.le_refl _) _)
  rw [World.size_alloc] at this
  exact this
theorem sqrt_3 : FloatKind.f64.format.sqrt 4613937818241073152 = some 4610479282544200874 := by decide +kernel
theorem sqrt_20 : FloatKind.f64.format.sqrt 4626322717216342016 = some 4616721195882509480 := by decide +kernel
theorem sqrt_48 : FloatKind.f64.format.sqrt 4631952216750555136 = some 4619486481798941866 := by decide +kernel
theorem sqrtM_run (x r : Nat) (h : FloatKind.f64.format.sqrt x = some r) (w : World) : (callFunc 42 #[.float .f64 x]).run Try.prog w = .ok (.value (.float .f64 r)) w := by
  rw [run_callFunc_extern Try.func42 (by kernel_rfl) (by kernel_rfl) (by kernel_rfl) (e := Extern.MathSqrt.sqrt) (by kernel_rfl)]
  have e : Extern.MathSqrt.sqrt #[.float .f64 x] = pure (.float .f64 r) := by
    show (match FloatKind.f64.format.sqrt x with
      | some r => pure (Value.float .f64 r)
      | none => do pure (Value.float .f64 (← choose (.nanBits .f64 x x)))) = _
    rw [h]
  rw [e]
  rfl
theorem SqrtM (x r : Nat) (w : World) (h : FloatKind.f64.format.sqrt x = some r) : Calls Try.prog 38 #[.float .f64 x] w fun z w' => z = .returned (.float .f64 r) ∧ w' = w := by
  have hq := sqrtM_run x r h
  clear h
  go_enter Try.func38, Try.ntmps38
  go_wp2
  go_ret
  exact ⟨rfl, rfl⟩
set_option maxHeartbeats 1000000 in
theorem rootOf_any (k a : Int) (n f d : Nat) (w : World) (hn : Up n 1123) (hd : Up d 1073) (d0 : d < 9223372036854775808) : Calls Try.prog 37 #[.agg #[.int .i64 k, .int .i64 a, .float .f64 n, .float .f64 f], .float .f64 d] w fun r w' => r = .returned (.float .f64 (vs n d)) ∧ Below w.heap.size w w' := by
  have r_va := arq_run .mul n d (va n d) (is_va hn hd d0).1 (by simp)
  have HS := hid (fun W => SqrtM (va n d) (vs n d) W (is_vs hn hd d0).1)
  clear hn hd d0
  go_enter Try.func37, Try.ntmps37
  go_wp2_with fail
  refine (HS.out _).mono ?_
  rintro e w1 ⟨rfl, hw⟩
  rw [hw]
  clear hw
  go_wp2_with fail
  go_ret
  exact ⟨rfl, (Below.refl _ _).alloc (Nat.le_refl _) _⟩
set_option maxRecDepth 4000 in
set_option maxHeartbeats 1000000 in
theorem stays_any (k a : Int) (n f d : Nat) (w : World) (hn : Up n 1123) (hf : Up f 1123) (hd : Up d 1073) (d0 : d < 9223372036854775808) : Calls Try.prog 23 #[.agg #[.int .i64 k, .int .i64 a, .float .f64 n, .float .f64 f], .float .f64 d] w fun r w' => BlR [4607182418800017408] w r w' := by
  have _HH := hid (And.intro hn (And.intro hf (And.intro hd d0)))
  clear _HH hn hf hd d0
  go_enter Try.func23, Try.ntmps23
  go_wp2_with fail
  go_ret
  first | exact blr1 _ | exact blr (Below.refl _ _)
set_option maxRecDepth 4000 in
set_option maxHeartbeats 1000000 in
theorem nothing_any (k a : Int) (n f d : Nat) (w : World) (hn : Up n 1123) (hf : Up f 1123) (hd : Up d 1073) (d0 : d < 9223372036854775808) : Calls Try.prog 24 #[.agg #[.int .i64 k, .int .i64 a, .float .f64 n, .float .f64 f], .float .f64 d] w fun r w' => BlR [0] w r w' := by
  have _HH := hid (And.intro hn (And.intro hf (And.intro hd d0)))
  clear _HH hn hf hd d0
  go_enter Try.func24, Try.ntmps24
  go_wp2_with fail
  go_ret
  first | exact blr1 _ | exact blr (Below.refl _ _)
set_option maxRecDepth 4000 in
set_option maxHeartbeats 1000000 in
theorem fadeF_any (k a : Int) (n f d : Nat) (w : World) (hn : Up n 1123) (hf : Up f 1123) (hd : Up d 1073) (d0 : d < 9223372036854775808) : Calls Try.prog 33 #[.agg #[.int .i64 k, .int .i64 a, .float .f64 n, .float .f64 f], .float .f64 d] w fun r w' => BlR [(vfo f d)] w r w' := by
  have r_vf := arq_run .mul f d (vf f d) (is_vf hf hd d0).1 (by simp)
  have r_vo := arq_run .add 4607182418800017408 (vf f d) (vo f d) (is_vo hf hd d0).1 (by simp)
  have r_vfo := arq_run .quo 4607182418800017408 (vo f d) (vfo f d) (is_vfo hf hd d0).1 (by simp)
  have _HH := hid (And.intro hn (And.intro hf (And.intro hd d0)))
  clear _HH hn hf hd d0
  go_enter Try.func33, Try.ntmps33
  go_wp2_with fail
  go_ret
  first | exact blr1 _ | exact blr (Below.refl _ _)
set_option maxRecDepth 4000 in
set_option maxHeartbeats 1000000 in
theorem speedF_any (k a : Int) (n f d : Nat) (w : World) (hn : Up n 1123) (hf : Up f 1123) (hd : Up d 1073) (d0 : d < 9223372036854775808) : Calls Try.prog 27 #[.agg #[.int .i64 k, .int .i64 a, .float .f64 n, .float .f64 f], .float .f64 d] w fun r w' => BlR [4607182418800017408, d, 0, 4607182418800017408] w r w' := by
  have _HH := hid (And.intro hn (And.intro hf (And.intro hd d0)))
  clear _HH hn hf hd d0
  go_enter Try.func27, Try.ntmps27
  go_wp2_with fail
  go_ret
  first | exact blr1 _ | exact blr (Below.refl _ _)
set_option maxRecDepth 4000 in
set_option maxHeartbeats 1000000 in
theorem pullF_any (k a : Int) (n f d : Nat) (w : World) (hn : Up n 1123) (hf : Up f 1123) (hd : Up d 1073) (d0 : d < 9223372036854775808) : Calls Try.prog 30 #[.agg #[.int .i64 k, .int .i64 a, .float .f64 n, .float .f64 f], .float .f64 d] w fun r w' => BlR [4607182418800017408, d, (qd d), 0, 4607182418800017408, d, 0, 0, 4607182418800017408] w r w' := by
  have r_vdd := arq_run .mul d d (vdd d) (is_vdd hd d0).1 (by simp)
  have r_qd := arq_run .quo (vdd d) 4611686018427387904 (qd d) (is_qd hd d0).1 (by simp)
  have _HH := hid (And.intro hn (And.intro hf (And.intro hd d0)))
  clear _HH hn hf hd d0
  go_enter Try.func30, Try.ntmps30
  go_wp2_with fail
  go_ret
  first | exact blr1 _ | exact blr (Below.refl _ _)
set_option maxRecDepth 4000 in
set_option maxHeartbeats 1000000 in
theorem walkQ_any (k a : Int) (n f d : Nat) (w : World) (hn : Up n 1123) (hf : Up f 1123) (hd : Up d 1073) (d0 : d < 9223372036854775808) : Calls Try.prog 25 #[.agg #[.int .i64 k, .int .i64 a, .float .f64 n, .float .f64 f], .float .f64 d] w fun r w' => BlR [(va n d)] w r w' := by
  have r_va := arq_run .mul n d (va n d) (is_va hn hd d0).1 (by simp)
  have _HH := hid (And.intro hn (And.intro hf (And.intro hd d0)))
  clear _HH hn hf hd d0
  go_enter Try.func25, Try.ntmps25
  go_wp2_with fail
  go_ret
  first | exact blr1 _ | exact blr (Below.refl _ _)
set_option maxRecDepth 4000 in
set_option maxHeartbeats 1000000 in
theorem speedQ_any (k a : Int) (n f d : Nat) (w : World) (hn : Up n 1123) (hf : Up f 1123) (hd : Up d 1073) (d0 : d < 9223372036854775808) : Calls Try.prog 28 #[.agg #[.int .i64 k, .int .i64 a, .float .f64 n, .float .f64 f], .float .f64 d] w fun r w' => BlR [(qc n d), (qb n d), (qb n d), (va n d)] w r w' := by
  have r_va := arq_run .mul n d (va n d) (is_va hn hd d0).1 (by simp)
  have r_vad := arq_run .mul (va n d) d (vad n d) (is_vad hn hd d0).1 (by simp)
  have r_qb := arq_run .quo (vad n d) 4611686018427387904 (qb n d) (is_qb hn hd d0).1 (by simp)
  have r_va2 := arq_run .mul (vad n d) d (va2 n d) (is_va2 hn hd d0).1 (by simp)
  have r_qc := arq_run .quo (va2 n d) 4613937818241073152 (qc n d) (is_qc hn hd d0).1 (by simp)
  have _HH := hid (And.intro hn (And.intro hf (And.intro hd d0)))
  clear _HH hn hf hd d0
  go_enter Try.func28, Try.ntmps28
  go_wp2_with fail
  go_ret
  first | exact blr1 _ | exact blr (Below.refl _ _)
set_option maxRecDepth 4000 in
set_option maxHeartbeats 1000000 in
theorem pullQ_any (k a : Int) (n f d : Nat) (w : World) (hn : Up n 1123) (hf : Up f 1123) (hd : Up d 1073) (d0 : d < 9223372036854775808) : Calls Try.prog 31 #[.agg #[.int .i64 k, .int .i64 a, .float .f64 n, .float .f64 f], .float .f64 d] w fun r w' => BlR [(qg n d), (qf n d), (qe n d), (qf n d), (qc n d), (qb n d), (qe n d), (qb n d), (va n d)] w r w' := by
  have r_va := arq_run .mul n d (va n d) (is_va hn hd d0).1 (by simp)
  have r_vad := arq_run .mul (va n d) d (vad n d) (is_vad hn hd d0).1 (by simp)
  have r_qb := arq_run .quo (vad n d) 4611686018427387904 (qb n d) (is_qb hn hd d0).1 (by simp)
  have r_va2 := arq_run .mul (vad n d) d (va2 n d) (is_va2 hn hd d0).1 (by simp)
  have r_qe := arq_run .quo (va2 n d) 4618441417868443648 (qe n d) (is_qe hn hd d0).1 (by simp)
  have r_qc := arq_run .quo (va2 n d) 4613937818241073152 (qc n d) (is_qc hn hd d0).1 (by simp)
  have r_va3 := arq_run .mul (va2 n d) d (va3 n d) (is_va3 hn hd d0).1 (by simp)
  have r_qf := arq_run .quo (va3 n d) 4620693217682128896 (qf n d) (is_qf hn hd d0).1 (by simp)
  have r_va4 := arq_run .mul (va3 n d) d (va4 n d) (is_va4 hn hd d0).1 (by simp)
  have r_qg := arq_run .quo (va4 n d) 4626322717216342016 (qg n d) (is_qg hn hd d0).1 (by simp)
  have _HH := hid (And.intro hn (And.intro hf (And.intro hd d0)))
  clear _HH hn hf hd d0
  go_enter Try.func31, Try.ntmps31
  go_wp2_with fail
  go_ret
  first | exact blr1 _ | exact blr (Below.refl _ _)
set_option maxRecDepth 4000 in
set_option maxHeartbeats 1000000 in
theorem walkG_any (k a : Int) (n f d : Nat) (w : World) (hn : Up n 1123) (hf : Up f 1123) (hd : Up d 1073) (d0 : d < 9223372036854775808) : Calls Try.prog 26 #[.agg #[.int .i64 k, .int .i64 a, .float .f64 n, .float .f64 f], .float .f64 d] w fun r w' => BlR [(vs n d)] w r w' := by
  have HR := hid (fun W => rootOf_any k a n f d W hn hd d0)
  have _HH := hid (And.intro hn (And.intro hf (And.intro hd d0)))
  clear _HH hn hf hd d0
  go_enter Try.func26, Try.ntmps26
  go_wp2_with fail
  refine (HR.out _).mono ?_
  rintro e w1 ⟨rfl, hb⟩
  have HB := hid (((Below.refl w.heap.size w).alloc (Nat.le_refl _) (PBox k a n f)).trans (hb.mono (by simp)))
  clear hb
  go_wp2_with fail
  go_ret
  first | exact blr HB.out | skip
set_option maxRecDepth 4000 in
set_option maxHeartbeats 1000000 in
theorem speedG_any (k a : Int) (n f d : Nat) (w : World) (hn : Up n 1123) (hf : Up f 1123) (hd : Up d 1073) (d0 : d < 9223372036854775808) : Calls Try.prog 29 #[.agg #[.int .i64 k, .int .i64 a, .float .f64 n, .float .f64 f], .float .f64 d] w fun r w' => BlR [(g1 n d), 0, (g2 n d), (g3 n d)] w r w' := by
  have r_vsd := arq_run .mul (vs n d) d (vsd n d) (is_vsd hn hd d0).1 (by simp)
  have r_g1 := arq_run .quo (vsd n d) 4610479282544200874 (g1 n d) (is_g1 hn hd d0).1 (by simp)
  have r_vr3 := arq_run .mul (vs n d) 4610479282544200874 (vr3 n d) (is_vr3 hn hd d0).1 (by simp)
  have r_g2 := arq_run .quo (vr3 n d) 4611686018427387904 (g2 n d) (is_g2 hn hd d0).1 (by simp)
  have r_g3 := arq_run .quo (vs n d) 4611686018427387904 (g3 n d) (is_g3 hn hd d0).1 (by simp)
  have HR := hid (fun W => rootOf_any k a n f d W hn hd d0)
  have HS3 := hid (fun W => SqrtM _ _ W sqrt_3)
  have _HH := hid (And.intro hn (And.intro hf (And.intro hd d0)))
  clear _HH hn hf hd d0
  go_enter Try.func29, Try.ntmps29
  go_wp2_with fail
  refine (HR.out _).mono ?_
  rintro e w1 ⟨rfl, hb⟩
  have HB := hid (((Below.refl w.heap.size w).alloc (Nat.le_refl _) (PBox k a n f)).trans (hb.mono (by simp)))
  clear hb
  go_wp2_with fail
  refine (HS3.out _).mono ?_
  rintro e w2 ⟨rfl, hw⟩
  rw [hw]
  clear hw
  go_wp2_with fail
  go_ret
  first | exact blr HB.out | skip
set_option maxRecDepth 4000 in
set_option maxHeartbeats 1000000 in
theorem pullG_any (k a : Int) (n f d : Nat) (w : World) (hn : Up n 1123) (hf : Up f 1123) (hd : Up d 1073) (d0 : d < 9223372036854775808) : Calls Try.prog 32 #[.agg #[.int .i64 k, .int .i64 a, .float .f64 n, .float .f64 f], .float .f64 d] w fun r w' => BlR [(h1 n d), 0, 0, (h2 n d), (h3 n d), 0, (h4 n d), (h5 n d), (h6 n d)] w r w' := by
  have r_vsd := arq_run .mul (vs n d) d (vsd n d) (is_vsd hn hd d0).1 (by simp)
  have r_vsdd := arq_run .mul (vsd n d) d (vsdd n d) (is_vsdd hn hd d0).1 (by simp)
  have r_h1 := arq_run .quo (vsdd n d) 4616721195882509480 (h1 n d) (is_h1 hn hd d0).1 (by simp)
  have r_vsdr := arq_run .mul (vsd n d) 4616721195882509480 (vsdr n d) (is_vsdr hn hd d0).1 (by simp)
  have r_h2 := arq_run .quo (vsdr n d) 4620693217682128896 (h2 n d) (is_h2 hn hd d0).1 (by simp)
  have r_h3 := arq_run .quo (vsd n d) 4619486481798941866 (h3 n d) (is_h3 hn hd d0).1 (by simp)
  have r_vr20 := arq_run .mul (vs n d) 4616721195882509480 (vr20 n d) (is_vr20 hn hd d0).1 (by simp)
  have r_h4 := arq_run .quo (vr20 n d) 4618441417868443648 (h4 n d) (is_h4 hn hd d0).1 (by simp)
  have r_vr48 := arq_run .mul (vs n d) 4619486481798941866 (vr48 n d) (is_vr48 hn hd d0).1 (by simp)
  have r_h5 := arq_run .quo (vr48 n d) 4622945017495814144 (h5 n d) (is_h5 hn hd d0).1 (by simp)
  have r_h6 := arq_run .quo (vs n d) 4613937818241073152 (h6 n d) (is_h6 hn hd d0).1 (by simp)
  have HR := hid (fun W => rootOf_any k a n f d W hn hd d0)
  have HS2 := hid (fun W => SqrtM _ _ W sqrt_20)
  have HS4 := hid (fun W => SqrtM _ _ W sqrt_48)
  have _HH := hid (And.intro hn (And.intro hf (And.intro hd d0)))
  clear _HH hn hf hd d0
  go_enter Try.func32, Try.ntmps32
  go_wp2_with fail
  refine (HR.out _).mono ?_
  rintro e w1 ⟨rfl, hb⟩
  have HB := hid (((Below.refl w.heap.size w).alloc (Nat.le_refl _) (PBox k a n f)).trans (hb.mono (by simp)))
  clear hb
  go_wp2_with fail
  refine (HS2.out _).mono ?_
  rintro e w2 ⟨rfl, hw⟩
  rw [hw]
  clear hw
  go_wp2_with fail
  refine (HS4.out _).mono ?_
  rintro e w2 ⟨rfl, hw⟩
  rw [hw]
  clear hw
  go_wp2_with fail
  go_ret
  first | exact blr HB.out | skip
end Go.Proofs.Ytggiklghcnojiaa
