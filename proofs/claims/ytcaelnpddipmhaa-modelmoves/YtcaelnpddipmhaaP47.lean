
/- The document's blocks of a part. -/
import Derived.Test.YtcaelnpddipmhaaP45
namespace Go.Proofs.Ytcaelnpddipmhaa
open Go.RowKit Go.IntWalk

set_option maxRecDepth 4000 in
set_option maxHeartbeats 1000000 in
theorem move_0 (a : Int) (n f d : Nat) (w : World) (hn : Up n 1123) (hf : Up f 1123) (hd : Up d 1073) (d0 : d < 9223372036854775808) : Calls Try.prog 50 #[.agg #[.int .i64 0, .int .i64 a, .float .f64 n, .float .f64 f], .float .f64 d] w fun r w' => BlR [4607182418800017408] w r w' := by
  have _HH := hid (And.intro hn (And.intro hf (And.intro hd d0)))
  clear _HH hn hf hd d0
  go_enter Try.func50, Try.ntmps50
  go_wp2_with fail
  go_ret
  first | exact blr1 _ | exact blr (Below.refl _ _)
set_option maxRecDepth 4000 in
set_option maxHeartbeats 1000000 in
theorem move_1 (a : Int) (n f d : Nat) (w : World) (hn : Up n 1123) (hf : Up f 1123) (hd : Up d 1073) (d0 : d < 9223372036854775808) : Calls Try.prog 50 #[.agg #[.int .i64 1, .int .i64 a, .float .f64 n, .float .f64 f], .float .f64 d] w fun r w' => BlR [4607182418800017408] w r w' := by
  have _HH := hid (And.intro hn (And.intro hf (And.intro hd d0)))
  clear _HH hn hf hd d0
  go_enter Try.func50, Try.ntmps50
  go_wp2_with fail
  go_ret
  first | exact blr1 _ | exact blr (Below.refl _ _)
set_option maxRecDepth 4000 in
set_option maxHeartbeats 1000000 in
theorem move_2 (a : Int) (n f d : Nat) (w : World) (hn : Up n 1123) (hf : Up f 1123) (hd : Up d 1073) (d0 : d < 9223372036854775808) : Calls Try.prog 50 #[.agg #[.int .i64 2, .int .i64 a, .float .f64 n, .float .f64 f], .float .f64 d] w fun r w' => BlR [4607182418800017408, d, 0, 4607182418800017408] w r w' := by
  have _HH := hid (And.intro hn (And.intro hf (And.intro hd d0)))
  clear _HH hn hf hd d0
  go_enter Try.func50, Try.ntmps50
  go_wp2_with fail
  go_ret
  first | exact blr1 _ | exact blr (Below.refl _ _)
set_option maxRecDepth 4000 in
set_option maxHeartbeats 1000000 in
theorem move_3 (a : Int) (n f d : Nat) (w : World) (hn : Up n 1123) (hf : Up f 1123) (hd : Up d 1073) (d0 : d < 9223372036854775808) : Calls Try.prog 50 #[.agg #[.int .i64 3, .int .i64 a, .float .f64 n, .float .f64 f], .float .f64 d] w fun r w' => BlR [4607182418800017408, d, (qd d), 0, 4607182418800017408, d, 0, 0, 4607182418800017408] w r w' := by
  have r_vdd := arq_run .mul d d (vdd d) (is_vdd hd d0).1 (by simp)
  have r_qd := arq_run .quo (vdd d) 4611686018427387904 (qd d) (is_qd hd d0).1 (by simp)
  have _HH := hid (And.intro hn (And.intro hf (And.intro hd d0)))
  clear _HH hn hf hd d0
  go_enter Try.func50, Try.ntmps50
  go_wp2_with fail
  go_ret
  first | exact blr1 _ | exact blr (Below.refl _ _)
set_option maxRecDepth 4000 in
set_option maxHeartbeats 1000000 in
theorem move_4 (a : Int) (n f d : Nat) (w : World) (hn : Up n 1123) (hf : Up f 1123) (hd : Up d 1073) (d0 : d < 9223372036854775808) : Calls Try.prog 50 #[.agg #[.int .i64 4, .int .i64 a, .float .f64 n, .float .f64 f], .float .f64 d] w fun r w' => BlR [(vfo f d)] w r w' := by
  have r_vf := arq_run .mul f d (vf f d) (is_vf hf hd d0).1 (by simp)
  have r_vo := arq_run .add 4607182418800017408 (vf f d) (vo f d) (is_vo hf hd d0).1 (by simp)
  have r_vfo := arq_run .quo 4607182418800017408 (vo f d) (vfo f d) (is_vfo hf hd d0).1 (by simp)
  have _HH := hid (And.intro hn (And.intro hf (And.intro hd d0)))
  clear _HH hn hf hd d0
  go_enter Try.func50, Try.ntmps50
  go_wp2_with fail
  go_ret
  first | exact blr1 _ | exact blr (Below.refl _ _)
set_option maxRecDepth 4000 in
set_option maxHeartbeats 1000000 in
theorem spread_0 (a : Int) (n f d : Nat) (w : World) (hn : Up n 1123) (hf : Up f 1123) (hd : Up d 1073) (d0 : d < 9223372036854775808) : Calls Try.prog 51 #[.agg #[.int .i64 0, .int .i64 a, .float .f64 n, .float .f64 f], .float .f64 d] w fun r w' => BlR [0] w r w' := by
  have r_va := arq_run .mul n d (va n d) (is_va hn hd d0).1 (by simp)
  have r_vad := arq_run .mul (va n d) d (vad n d) (is_vad hn hd d0).1 (by simp)
  have r_qb := arq_run .quo (vad n d) 4611686018427387904 (qb n d) (is_qb hn hd d0).1 (by simp)
  have _HH := hid (And.intro hn (And.intro hf (And.intro hd d0)))
  clear _HH hn hf hd d0
  go_enter Try.func51, Try.ntmps51
  go_wp2_with fail
  go_ret
  first | exact blr1 _ | exact blr (Below.refl _ _)
set_option maxRecDepth 4000 in
set_option maxHeartbeats 1000000 in
theorem spread_1 (a : Int) (n f d : Nat) (w : World) (hn : Up n 1123) (hf : Up f 1123) (hd : Up d 1073) (d0 : d < 9223372036854775808) : Calls Try.prog 51 #[.agg #[.int .i64 1, .int .i64 a, .float .f64 n, .float .f64 f], .float .f64 d] w fun r w' => BlR [(va n d)] w r w' := by
  have r_va := arq_run .mul n d (va n d) (is_va hn hd d0).1 (by simp)
  have r_vad := arq_run .mul (va n d) d (vad n d) (is_vad hn hd d0).1 (by simp)
  have r_qb := arq_run .quo (vad n d) 4611686018427387904 (qb n d) (is_qb hn hd d0).1 (by simp)
  have _HH := hid (And.intro hn (And.intro hf (And.intro hd d0)))
  clear _HH hn hf hd d0
  go_enter Try.func51, Try.ntmps51
  go_wp2_with fail
  go_ret
  first | exact blr1 _ | exact blr (Below.refl _ _)
set_option maxRecDepth 4000 in
set_option maxHeartbeats 1000000 in
theorem spread_2 (a : Int) (n f d : Nat) (w : World) (hn : Up n 1123) (hf : Up f 1123) (hd : Up d 1073) (d0 : d < 9223372036854775808) : Calls Try.prog 51 #[.agg #[.int .i64 2, .int .i64 a, .float .f64 n, .float .f64 f], .float .f64 d] w fun r w' => BlR [(qc n d), (qb n d), (qb n d), (va n d)] w r w' := by
  have r_va := arq_run .mul n d (va n d) (is_va hn hd d0).1 (by simp)
  have r_vad := arq_run .mul (va n d) d (vad n d) (is_vad hn hd d0).1 (by simp)
  have r_qb := arq_run .quo (vad n d) 4611686018427387904 (qb n d) (is_qb hn hd d0).1 (by simp)
  have r_va2 := arq_run .mul (vad n d) d (va2 n d) (is_va2 hn hd d0).1 (by simp)
  have r_qc := arq_run .quo (va2 n d) 4613937818241073152 (qc n d) (is_qc hn hd d0).1 (by simp)
  have _HH := hid (And.intro hn (And.intro hf (And.intro hd d0)))
  clear _HH hn hf hd d0
  go_enter Try.func51, Try.ntmps51
  go_wp2_with fail
  go_ret
  first | exact blr1 _ | exact blr (Below.refl _ _)
set_option maxRecDepth 4000 in
set_option maxHeartbeats 1000000 in
theorem spread_3 (a : Int) (n f d : Nat) (w : World) (hn : Up n 1123) (hf : Up f 1123) (hd : Up d 1073) (d0 : d < 9223372036854775808) : Calls Try.prog 51 #[.agg #[.int .i64 3, .int .i64 a, .float .f64 n, .float .f64 f], .float .f64 d] w fun r w' => BlR [(qg n d), (qf n d), (qe n d), (qf n d), (qc n d), (qb n d), (qe n d), (qb n d), (va n d)] w r w' := by
  have r_va := arq_run .mul n d (va n d) (is_va hn hd d0).1 (by simp)
  have r_vad := arq_run .mul (va n d) d (vad n d) (is_vad hn hd d0).1 (by simp)
  have r_qb := arq_run .quo (vad n d) 4611686018427387904 (qb n d) (is_qb hn hd d0).1 (by simp)
  have r_va2 := arq_run .mul (vad n d) d (va2 n d) (is_va2 hn hd d0).1 (by simp)
  have r_qe := arq_run .quo (va2 n d) 4618441417868443648 (qe n d) (is_qe hn hd d0).1 (by simp)
  have r_qc := arq_run .quo (va2 n d) 4613937818241073152 (qc n d) (is_qc hn hd d0).1 (by simp)
  have r_va3 := arq_run .mul (va2 n d) d (va3 n d) (is_va3 hn hd d0).1 (by simp)
  have r_qf := arq_run .quo (va3 n d) 4620693217682128896 (qf n d) (is_qf hn hd d0).1 (by simp)
  have r_va4 := arq_run .mul (va3 n d) d (va4 n d) (is_va4 hn hd d0).1 (by simp)
  have r_qg := arq_run .quo (va4 n d) 4626322717216342016 (qg n d) (is_qg hn hd d0).1 (by simp)
  have _HH := hid (And.intro hn (And.intro hf (And.intro hd d0)))
  clear _HH hn hf hd d0
  go_enter Try.func51, Try.ntmps51
  go_wp2_with fail
  go_ret
  first | exact blr1 _ | exact blr (Below.refl _ _)
set_option maxRecDepth 4000 in
set_option maxHeartbeats 1000000 in
theorem spread_4 (a : Int) (n f d : Nat) (w : World) (hn : Up n 1123) (hf : Up f 1123) (hd : Up d 1073) (d0 : d < 9223372036854775808) : Calls Try.prog 51 #[.agg #[.int .i64 4, .int .i64 a, .float .f64 n, .float .f64 f], .float .f64 d] w fun r w' => BlR [(va n d)] w r w' := by
  have r_va := arq_run .mul n d (va n d) (is_va hn hd d0).1 (by simp)
  have r_vad := arq_run .mul (va n d) d (vad n d) (is_vad hn hd d0).1 (by simp)
  have r_qb := arq_run .quo (vad n d) 4611686018427387904 (qb n d) (is_qb hn hd d0).1 (by simp)
  have _HH := hid (And.intro hn (And.intro hf (And.intro hd d0)))
  clear _HH hn hf hd d0
  go_enter Try.func51, Try.ntmps51
  go_wp2_with fail
  go_ret
  first | exact blr1 _ | exact blr (Below.refl _ _)
set_option maxRecDepth 4000 in
set_option maxHeartbeats 1000000 in
theorem root_0 (a : Int) (n f d : Nat) (w : World) (hn : Up n 1123) (hf : Up f 1123) (hd : Up d 1073) (d0 : d < 9223372036854775808) : Calls Try.prog 52 #[.agg #[.int .i64 0, .int .i64 a, .float .f64 n, .float .f64 f], .float .f64 d] w fun r w' => BlR [0] w r w' := by
  have r_va := arq_run .mul n d (va n d) (is_va hn hd d0).1 (by simp)
  have HS0 := hid (fun W => SqrtM (va n d) (vs n d) W (is_vs hn hd d0).1)
  have _HH := hid (And.intro hn (And.intro hf (And.intro hd d0)))
  clear _HH hn hf hd d0
  go_enter Try.func52, Try.ntmps52
  go_wp2_with fail
  refine (HS0.out _).mono ?_
  rintro e w1 ⟨rfl, hw⟩
  rw [hw]
  clear hw w1
  go_wp2_with fail
  go_ret
  first | exact blr1 _ | exact blr (Below.refl _ _)
set_option maxRecDepth 4000 in
set_option maxHeartbeats 1000000 in
theorem root_1 (a : Int) (n f d : Nat) (w : World) (hn : Up n 1123) (hf : Up f 1123) (hd : Up d 1073) (d0 : d < 9223372036854775808) : Calls Try.prog 52 #[.agg #[.int .i64 1, .int .i64 a, .float .f64 n, .float .f64 f], .float .f64 d] w fun r w' => BlR [(vs n d)] w r w' := by
  have r_va := arq_run .mul n d (va n d) (is_va hn hd d0).1 (by simp)
  have HS0 := hid (fun W => SqrtM (va n d) (vs n d) W (is_vs hn hd d0).1)
  have _HH := hid (And.intro hn (And.intro hf (And.intro hd d0)))
  clear _HH hn hf hd d0
  go_enter Try.func52, Try.ntmps52
  go_wp2_with fail
  refine (HS0.out _).mono ?_
  rintro e w1 ⟨rfl, hw⟩
  rw [hw]
  clear hw w1
  go_wp2_with fail
  go_ret
  first | exact blr1 _ | exact blr (Below.refl _ _)
set_option maxRecDepth 4000 in
set_option maxHeartbeats 1000000 in
theorem root_2 (a : Int) (n f d : Nat) (w : World) (hn : Up n 1123) (hf : Up f 1123) (hd : Up d 1073) (d0 : d < 9223372036854775808) : Calls Try.prog 52 #[.agg #[.int .i64 2, .int .i64 a, .float .f64 n, .float .f64 f], .float .f64 d] w fun r w' => BlR [(g1 n d), 0, (g2 n d), (g3 n d)] w r w' := by
  have r_va := arq_run .mul n d (va n d) (is_va hn hd d0).1 (by simp)
  have r_vsd := arq_run .mul (vs n d) d (vsd n d) (is_vsd hn hd d0).1 (by simp)
  have r_g1 := arq_run .quo (vsd n d) 4610479282544200874 (g1 n d) (is_g1 hn hd d0).1 (by simp)
  have r_vr3 := arq_run .mul (vs n d) 4610479282544200874 (vr3 n d) (is_vr3 hn hd d0).1 (by simp)
  have r_g2 := arq_run .quo (vr3 n d) 4611686018427387904 (g2 n d) (is_g2 hn hd d0).1 (by simp)
  have r_g3 := arq_run .quo (vs n d) 4611686018427387904 (g3 n d) (is_g3 hn hd d0).1 (by simp)
  have HS0 := hid (fun W => SqrtM (va n d) (vs n d) W (is_vs hn hd d0).1)
  have HS3 := hid (fun W => SqrtM _ _ W sqrt_3)
  have _HH := hid (And.intro hn (And.intro hf (And.intro hd d0)))
  clear _HH hn hf hd d0
  go_enter Try.func52, Try.ntmps52
  go_wp2_with fail
  refine (HS0.out _).mono ?_
  rintro e w1 ⟨rfl, hw⟩
  rw [hw]
  clear hw w1
  go_wp2_with fail
  refine (HS3.out _).mono ?_
  rintro e w1 ⟨rfl, hw⟩
  rw [hw]
  clear hw w1
  go_wp2_with fail
  go_ret
  first | exact blr1 _ | exact blr (Below.refl _ _)
set_option maxRecDepth 4000 in
set_option maxHeartbeats 1000000 in
theorem root_3 (a : Int) (n f d : Nat) (w : World) (hn : Up n 1123) (hf : Up f 1123) (hd : Up d 1073) (d0 : d < 9223372036854775808) : Calls Try.prog 52 #[.agg #[.int .i64 3, .int .i64 a, .float .f64 n, .float .f64 f], .float .f64 d] w fun r w' => BlR [(h1 n d), 0, 0, (h2 n d), (h3 n d), 0, (h4 n d), (h5 n d), (h6 n d)] w r w' := by
  have r_va := arq_run .mul n d (va n d) (is_va hn hd d0).1 (by simp)
  have r_vsd := arq_run .mul (vs n d) d (vsd n d) (is_vsd hn hd d0).1 (by simp)
  have r_vsdd := arq_run .mul (vsd n d) d (vsdd n d) (is_vsdd hn hd d0).1 (by simp)
  have r_h1 := arq_run .quo (vsdd n d) 4616721195882509480 (h1 n d) (is_h1 hn hd d0).1 (by simp)
  have r_vsdr := arq_run .mul (vsd n d) 4616721195882509480 (vsdr n d) (is_vsdr hn hd d0).1 (by simp)
  have r_h2 := arq_run .quo (vsdr n d) 4620693217682128896 (h2 n d) (is_h2 hn hd d0).1 (by simp)
  have r_h3 := arq_run .quo (vsd n d) 4619486481798941866 (h3 n d) (is_h3 hn hd d0).1 (by simp)
  have r_vr20 := arq_run .mul (vs n d) 4616721195882509480 (vr20 n d) (is_vr20 hn hd d0).1 (by simp)
  have r_h4 := arq_run .quo (vr20 n d) 4618441417868443648 (h4 n d) (is_h4 hn hd d0).1 (by simp)
  have r_vr48 := arq_run .mul (vs n d) 4619486481798941866 (vr48 n d) (is_vr48 hn hd d0).1 (by simp)
  have r_h5 := arq_run .quo (vr48 n d) 4622945017495814144 (h5 n d) (is_h5 hn hd d0).1 (by simp)
  have r_h6 := arq_run .quo (vs n d) 4613937818241073152 (h6 n d) (is_h6 hn hd d0).1 (by simp)
  have HS0 := hid (fun W => SqrtM (va n d) (vs n d) W (is_vs hn hd d0).1)
  have HS2 := hid (fun W => SqrtM _ _ W sqrt_20)
  have HS4 := hid (fun W => SqrtM _ _ W sqrt_48)
  have _HH := hid (And.intro hn (And.intro hf (And.intro hd d0)))
  clear _HH hn hf hd d0
  go_enter Try.func52, Try.ntmps52
  go_wp2_with fail
  refine (HS0.out _).mono ?_
  rintro e w1 ⟨rfl, hw⟩
  rw [hw]
  clear hw w1
  go_wp2_with fail
  refine (HS2.out _).mono ?_
  rintro e w1 ⟨rfl, hw⟩
  rw [hw]
  clear hw w1
  go_wp2_with fail
  refine (HS4.out _).mono ?_
  rintro e w1 ⟨rfl, hw⟩
  rw [hw]
  clear hw w1
  go_wp2_with fail
  go_ret
  first | exact blr1 _ | exact blr (Below.refl _ _)
set_option maxRecDepth 4000 in
set_option maxHeartbeats 1000000 in
theorem root_4 (a : Int) (n f d : Nat) (w : World) (hn : Up n 1123) (hf : Up f 1123) (hd : Up d 1073) (d0 : d < 9223372036854775808) : Calls Try.prog 52 #[.agg #[.int .i64 4, .int .i64 a, .float .f64 n, .float .f64 f], .float .f64 d] w fun r w' => BlR [(vs n d)] w r w' := by
  have r_va := arq_run .mul n d (va n d) (is_va hn hd d0).1 (by simp)
  have HS0 := hid (fun W => SqrtM (va n d) (vs n d) W (is_vs hn hd d0).1)
  have _HH := hid (And.intro hn (And.intro hf (And.intro hd d0)))
  clear _HH hn hf hd d0
  go_enter Try.func52, Try.ntmps52
  go_wp2_with fail
  refine (HS0.out _).mono ?_
  rintro e w1 ⟨rfl, hw⟩
  rw [hw]
  clear hw w1
  go_wp2_with fail
  go_ret
  first | exact blr1 _ | exact blr (Below.refl _ _)
theorem move_any (k a : Int) (n f d : Nat) (w : World) (hk : szK k ≠ 0) (hn : Up n 1123) (hf : Up f 1123) (hd : Up d 1073) (d0 : d < 9223372036854775808) : Calls Try.prog 50 #[.agg #[.int .i64 k, .int .i64 a, .float .f64 n, .float .f64 f], .float .f64 d] w fun r w' => BlR (blF k f d) w r w' := by
  rcases szK_cases hk with rfl | rfl | rfl | rfl | rfl
  · exact move_0 a n f d w hn hf hd d0
  · exact move_1 a n f d w hn hf hd d0
  · exact move_2 a n f d w hn hf hd d0
  · exact move_3 a n f d w hn hf hd d0
  · exact move_4 a n f d w hn hf hd d0
theorem spread_any (k a : Int) (n f d : Nat) (w : World) (hk : szK k ≠ 0) (hn : Up n 1123) (hf : Up f 1123) (hd : Up d 1073) (d0 : d < 9223372036854775808) : Calls Try.prog 51 #[.agg #[.int .i64 k, .int .i64 a, .float .f64 n, .float .f64 f], .float .f64 d] w fun r w' => BlR (blQ k n d) w r w' := by
  rcases szK_cases hk with rfl | rfl | rfl | rfl | rfl
  · exact spread_0 a n f d w hn hf hd d0
  · exact spread_1 a n f d w hn hf hd d0
  · exact spread_2 a n f d w hn hf hd d0
  · exact spread_3 a n f d w hn hf hd d0
  · exact spread_4 a n f d w hn hf hd d0
theorem root_any (k a : Int) (n f d : Nat) (w : World) (hk : szK k ≠ 0) (hn : Up n 1123) (hf : Up f 1123) (hd : Up d 1073) (d0 : d < 9223372036854775808) : Calls Try.prog 52 #[.agg #[.int .i64 k, .int .i64 a, .float .f64 n, .float .f64 f], .float .f64 d] w fun r w' => BlR (blG k n d) w r w' := by
  rcases szK_cases hk with rfl | rfl | rfl | rfl | rfl
  · exact root_0 a n f d w hn hf hd d0
  · exact root_1 a n f d w hn hf hd d0
  · exact root_2 a n f d w hn hf hd d0
  · exact root_3 a n f d w hn hf hd d0
  · exact root_4 a n f d w hn hf hd d0
set_option maxHeartbeats 1000000 in
theorem block_0 (k a : Int) (n f d : Nat) (w : World) (hk : szK k ≠ 0) (hn : Up n 1123) (hf : Up f 1123) (hd : Up d 1073) (d0 : d < 9223372036854775808) : Calls Try.prog 33 #[.agg #[.int .i64 k, .int .i64 a, .float .f64 n, .float .f64 f], .float .f64 d, .int .i64 0] w fun r w' => BlR (bl 0 k n f d) w r w' := by
  have HM := hid (fun W => move_any k a n f d W hk hn hf hd d0)
  have _HH := hid (And.intro hn (And.intro hf (And.intro hd (And.intro d0 hk))))
  have HB : Hid (Below w.heap.size w (w.alloc (PBox k a n f)) ∧ (w.alloc (PBox k a n f)).heap[w.heap.size]? = some (PBox k a n f)) := ⟨(Below.refl _ _).alloc (Nat.le_refl _) _, nblkM _ _⟩
  obtain ⟨V, hV⟩ : ∃ V, Hid (w.alloc (PBox k a n f) = V) := ⟨_, rfl⟩
  rw [hV.out] at HB
  have hV' := hV.out
  unfold PBox at hV'
  obtain ⟨q0, q1, q2, q3⟩ := ptcells_of HB.out.2
  clear _HH hn hf hd d0 hk
  go_enter Try.func33, Try.ntmps33
  go_wp2_with fail
  refine (HM.out _).mono ?_
  rintro e w1 ⟨g, rfl, hg, hl, hb⟩
  have HR : Hid (BlR (bl 0 k n f d) w (.returned (.slice (some ⟨g, 0, none⟩) (blF k f d).length (blF k f d).length)) w1) := ⟨g, rfl, hg, Nat.le_trans HB.out.1.size hl, HB.out.1.trans (hb.mono HB.out.1.size)⟩
  clear hg hl hb
  go_wp2_with fail
  go_ret
  exact HR.out
set_option maxHeartbeats 1000000 in
theorem block_1 (k a : Int) (n f d : Nat) (w : World) (hk : szK k ≠ 0) (hn : Up n 1123) (hf : Up f 1123) (hd : Up d 1073) (d0 : d < 9223372036854775808) : Calls Try.prog 33 #[.agg #[.int .i64 k, .int .i64 a, .float .f64 n, .float .f64 f], .float .f64 d, .int .i64 1] w fun r w' => BlR (bl 1 k n f d) w r w' := by
  have HM := hid (fun W => spread_any k a n f d W hk hn hf hd d0)
  have _HH := hid (And.intro hn (And.intro hf (And.intro hd (And.intro d0 hk))))
  have HB : Hid (Below w.heap.size w (w.alloc (PBox k a n f)) ∧ (w.alloc (PBox k a n f)).heap[w.heap.size]? = some (PBox k a n f)) := ⟨(Below.refl _ _).alloc (Nat.le_refl _) _, nblkM _ _⟩
  obtain ⟨V, hV⟩ : ∃ V, Hid (w.alloc (PBox k a n f) = V) := ⟨_, rfl⟩
  rw [hV.out] at HB
  have hV' := hV.out
  unfold PBox at hV'
  obtain ⟨q0, q1, q2, q3⟩ := ptcells_of HB.out.2
  clear _HH hn hf hd d0 hk
  go_enter Try.func33, Try.ntmps33
  go_wp2_with fail
  refine (HM.out _).mono ?_
  rintro e w1 ⟨g, rfl, hg, hl, hb⟩
  have HR : Hid (BlR (bl 1 k n f d) w (.returned (.slice (some ⟨g, 0, none⟩) (blQ k n d).length (blQ k n d).length)) w1) := ⟨g, rfl, hg, Nat.le_trans HB.out.1.size hl, HB.out.1.trans (hb.mono HB.out.1.size)⟩
  clear hg hl hb
  go_wp2_with fail
  go_ret
  exact HR.out
set_option maxHeartbeats 1000000 in
theorem block_2 (k a : Int) (n f d : Nat) (w : World) (hk : szK k ≠ 0) (hn : Up n 1123) (hf : Up f 1123) (hd : Up d 1073) (d0 : d < 9223372036854775808) : Calls Try.prog 33 #[.agg #[.int .i64 k, .int .i64 a, .float .f64 n, .float .f64 f], .float .f64 d, .int .i64 2] w fun r w' => BlR (bl 2 k n f d) w r w' := by
  have HM := hid (fun W => root_any k a n f d W hk hn hf hd d0)
  have _HH := hid (And.intro hn (And.intro hf (And.intro hd (And.intro d0 hk))))
  have HB : Hid (Below w.heap.size w (w.alloc (PBox k a n f)) ∧ (w.alloc (PBox k a n f)).heap[w.heap.size]? = some (PBox k a n f)) := ⟨(Below.refl _ _).alloc (Nat.le_refl _) _, nblkM _ _⟩
  obtain ⟨V, hV⟩ : ∃ V, Hid (w.alloc (PBox k a n f) = V) := ⟨_, rfl⟩
  rw [hV.out] at HB
  have hV' := hV.out
  unfold PBox at hV'
  obtain ⟨q0, q1, q2, q3⟩ := ptcells_of HB.out.2
  clear _HH hn hf hd d0 hk
  go_enter Try.func33, Try.ntmps33
  go_wp2_with fail
  refine (HM.out _).mono ?_
  rintro e w1 ⟨g, rfl, hg, hl, hb⟩
  have HR : Hid (BlR (bl 2 k n f d) w (.returned (.slice (some ⟨g, 0, none⟩) (blG k n d).length (blG k n d).length)) w1) := ⟨g, rfl, hg, Nat.le_trans HB.out.1.size hl, HB.out.1.trans (hb.mono HB.out.1.size)⟩
  clear hg hl hb
  go_wp2_with fail
  go_ret
  exact HR.out
theorem block_any (u : Nat) (hu : u ≤ 2) (k a : Int) (n f d : Nat) (w : World) (hk : szK k ≠ 0) (hn : Up n 1123) (hf : Up f 1123) (hd : Up d 1073) (d0 : d < 9223372036854775808) : Calls Try.prog 33 #[.agg #[.int .i64 k, .int .i64 a, .float .f64 n, .float .f64 f], .float .f64 d, .int .i64 (u : Int)] w fun r w' => BlR (bl u k n f d) w r w' := by
  rcases (show u = 0 ∨ u = 1 ∨ u = 2 by omega) with rfl | rfl | rfl
  · exact block_0 k a n f d w hk hn hf hd d0
  · exact block_1 k a n f d w hk hn hf hd d0
  · exact block_2 k a n f d w hk hn hf hd d0
end Go.Proofs.Ytcaelnpddipmhaa
