
/- model: the formula that is chosen of a kind. -/
import Derived.Test.YtggiklghcnojiaaP43
namespace Go.Proofs.Ytggiklghcnojiaa
open Go.RowKit Go.IntWalk

set_option maxHeartbeats 1000000 in
theorem chF_any (z : Int) (p q g : Nat) (w : World) : Calls Try.prog 18 #[.agg #[.int .i64 z, .func (.func p) #[] #[], .func (.func q) #[] #[], .func (.func g) #[] #[]]] w fun r w' => r = .returned (.func (.func p) #[] #[]) ∧ Below w.heap.size w w' := by
  go_enter Try.func18, Try.ntmps18
  go_wp2_with fail
  go_ret
  exact ⟨rfl, (Below.refl _ _).alloc (Nat.le_refl _) _⟩
set_option maxHeartbeats 1000000 in
theorem chQ_any (z : Int) (p q g : Nat) (w : World) : Calls Try.prog 19 #[.agg #[.int .i64 z, .func (.func p) #[] #[], .func (.func q) #[] #[], .func (.func g) #[] #[]]] w fun r w' => r = .returned (.func (.func q) #[] #[]) ∧ Below w.heap.size w w' := by
  go_enter Try.func19, Try.ntmps19
  go_wp2_with fail
  go_ret
  exact ⟨rfl, (Below.refl _ _).alloc (Nat.le_refl _) _⟩
set_option maxHeartbeats 1000000 in
theorem chG_any (z : Int) (p q g : Nat) (w : World) : Calls Try.prog 20 #[.agg #[.int .i64 z, .func (.func p) #[] #[], .func (.func q) #[] #[], .func (.func g) #[] #[]]] w fun r w' => r = .returned (.func (.func g) #[] #[]) ∧ Below w.heap.size w w' := by
  go_enter Try.func20, Try.ntmps20
  go_wp2_with fail
  go_ret
  exact ⟨rfl, (Below.refl _ _).alloc (Nat.le_refl _) _⟩
def fnU (u p q g : Nat) : Nat := if u = 0 then p else if u = 1 then q else g
def chU (u : Nat) : Nat := if u = 0 then 18 else if u = 1 then 19 else 20
theorem ch_any (u : Nat) (z : Int) (p q g : Nat) (w : World) : Calls Try.prog (chU u) #[.agg #[.int .i64 z, .func (.func p) #[] #[], .func (.func q) #[] #[], .func (.func g) #[] #[]]] w fun r w' => r = .returned (.func (.func (fnU u p q g)) #[] #[]) ∧ Below w.heap.size w w' := by
  unfold chU fnU
  by_cases h0 : u = 0
  · rw [if_pos h0, if_pos h0]
    exact chF_any z p q g w
  by_cases h1 : u = 1
  · rw [if_neg h0, if_neg h0, if_pos h1, if_pos h1]
    exact chQ_any z p q g w
  · rw [if_neg h0, if_neg h0, if_neg h1, if_neg h1]
    exact chG_any z p q g w
theorem ent_Fc (args : Array Value) (W : World) : (callFunc 18 args).run Try.prog W = .ok (.enter 18 args) W := by
  go_simp
theorem ent_Qc (args : Array Value) (W : World) : (callFunc 19 args).run Try.prog W = .ok (.enter 19 args) W := by
  go_simp
theorem ent_Gc (args : Array Value) (W : World) : (callFunc 20 args).run Try.prog W = .ok (.enter 20 args) W := by
  go_simp
theorem ent_stays (args : Array Value) (W : World) : (callFunc 23 args).run Try.prog W = .ok (.enter 23 args) W := by
  go_simp
theorem ent_nothing (args : Array Value) (W : World) : (callFunc 24 args).run Try.prog W = .ok (.enter 24 args) W := by
  go_simp
theorem ent_speedF (args : Array Value) (W : World) : (callFunc 27 args).run Try.prog W = .ok (.enter 27 args) W := by
  go_simp
theorem ent_pullF (args : Array Value) (W : World) : (callFunc 30 args).run Try.prog W = .ok (.enter 30 args) W := by
  go_simp
theorem ent_fadeF (args : Array Value) (W : World) : (callFunc 33 args).run Try.prog W = .ok (.enter 33 args) W := by
  go_simp
theorem ent_walkQ (args : Array Value) (W : World) : (callFunc 25 args).run Try.prog W = .ok (.enter 25 args) W := by
  go_simp
theorem ent_speedQ (args : Array Value) (W : World) : (callFunc 28 args).run Try.prog W = .ok (.enter 28 args) W := by
  go_simp
theorem ent_pullQ (args : Array Value) (W : World) : (callFunc 31 args).run Try.prog W = .ok (.enter 31 args) W := by
  go_simp
theorem ent_walkG (args : Array Value) (W : World) : (callFunc 26 args).run Try.prog W = .ok (.enter 26 args) W := by
  go_simp
theorem ent_speedG (args : Array Value) (W : World) : (callFunc 29 args).run Try.prog W = .ok (.enter 29 args) W := by
  go_simp
theorem ent_pullG (args : Array Value) (W : World) : (callFunc 32 args).run Try.prog W = .ok (.enter 32 args) W := by
  go_simp
theorem ent_ch (u : Nat) (args : Array Value) (W : World) : (callFunc (chU u) args).run Try.prog W = .ok (.enter (chU u) args) W := by
  unfold chU
  split
  · exact ent_Fc args W
  · split
    · exact ent_Qc args W
    · exact ent_Gc args W
theorem ent_fF (k : Int) (hk : szK k ≠ 0) (args : Array Value) (W : World) : (callFunc (fnF k) args).run Try.prog W = .ok (.enter (fnF k) args) W := by
  rcases szK_cases hk with rfl | rfl | rfl | rfl | rfl
  · exact ent_stays args W
  · exact ent_stays args W
  · exact ent_speedF args W
  · exact ent_pullF args W
  · exact ent_fadeF args W
theorem ent_fQ (k : Int) (hk : szK k ≠ 0) (args : Array Value) (W : World) : (callFunc (fnQ k) args).run Try.prog W = .ok (.enter (fnQ k) args) W := by
  rcases szK_cases hk with rfl | rfl | rfl | rfl | rfl
  · exact ent_nothing args W
  · exact ent_walkQ args W
  · exact ent_speedQ args W
  · exact ent_pullQ args W
  · exact ent_walkQ args W
theorem ent_fG (k : Int) (hk : szK k ≠ 0) (args : Array Value) (W : World) : (callFunc (fnG k) args).run Try.prog W = .ok (.enter (fnG k) args) W := by
  rcases szK_cases hk with rfl | rfl | rfl | rfl | rfl
  · exact ent_nothing args W
  · exact ent_walkG args W
  · exact ent_speedG args W
  · exact ent_pullG args W
  · exact ent_walkG args W
theorem ent_fn (u : Nat) (k : Int) (hk : szK k ≠ 0) (args : Array Value) (W : World) : (callFunc (fnU u (fnF k) (fnQ k) (fnG k)) args).run Try.prog W = .ok (.enter (fnU u (fnF k) (fnQ k) (fnG k)) args) W := by
  unfold fnU
  split
  · exact ent_fF k hk args W
  · split
    · exact ent_fQ k hk args W
    · exact ent_fG k hk args W
theorem fmF_any (k a : Int) (n f d : Nat) (w : World) (hk : szK k ≠ 0) (hn : Up n 1123) (hf : Up f 1123) (hd : Up d 1073) (d0 : d < 9223372036854775808) : Calls Try.prog (fnF k) #[.agg #[.int .i64 k, .int .i64 a, .float .f64 n, .float .f64 f], .float .f64 d] w fun r w' => BlR (blF k f d) w r w' := by
  rcases szK_cases hk with rfl | rfl | rfl | rfl | rfl
  · exact stays_any 0 a n f d w hn hf hd d0
  · exact stays_any 1 a n f d w hn hf hd d0
  · exact speedF_any 2 a n f d w hn hf hd d0
  · exact pullF_any 3 a n f d w hn hf hd d0
  · exact fadeF_any 4 a n f d w hn hf hd d0
theorem fmQ_any (k a : Int) (n f d : Nat) (w : World) (hk : szK k ≠ 0) (hn : Up n 1123) (hf : Up f 1123) (hd : Up d 1073) (d0 : d < 9223372036854775808) : Calls Try.prog (fnQ k) #[.agg #[.int .i64 k, .int .i64 a, .float .f64 n, .float .f64 f], .float .f64 d] w fun r w' => BlR (blQ k n d) w r w' := by
  rcases szK_cases hk with rfl | rfl | rfl | rfl | rfl
  · exact nothing_any 0 a n f d w hn hf hd d0
  · exact walkQ_any 1 a n f d w hn hf hd d0
  · exact speedQ_any 2 a n f d w hn hf hd d0
  · exact pullQ_any 3 a n f d w hn hf hd d0
  · exact walkQ_any 4 a n f d w hn hf hd d0
theorem fmG_any (k a : Int) (n f d : Nat) (w : World) (hk : szK k ≠ 0) (hn : Up n 1123) (hf : Up f 1123) (hd : Up d 1073) (d0 : d < 9223372036854775808) : Calls Try.prog (fnG k) #[.agg #[.int .i64 k, .int .i64 a, .float .f64 n, .float .f64 f], .float .f64 d] w fun r w' => BlR (blG k n d) w r w' := by
  rcases szK_cases hk with rfl | rfl | rfl | rfl | rfl
  · exact nothing_any 0 a n f d w hn hf hd d0
  · exact walkG_any 1 a n f d w hn hf hd d0
  · exact speedG_any 2 a n f d w hn hf hd d0
  · exact pullG_any 3 a n f d w hn hf hd d0
  · exact walkG_any 4 a n f d w hn hf hd d0
theorem fm_any (u : Nat) (k a : Int) (n f d : Nat) (w : World) (hk : szK k ≠ 0) (hn : Up n 1123) (hf : Up f 1123) (hd : Up d 1073) (d0 : d < 9223372036854775808) : Calls Try.prog (fnU u (fnF k) (fnQ k) (fnG k)) #[.agg #[.int .i64 k, .int .i64 a, .float .f64 n, .float .f64 f], .float .f64 d] w fun r w' => BlR (bl u k n f d) w r w' := by
  unfold fnU bl
  by_cases h0 : u = 0
  · rw [if_pos h0, if_pos h0]
    exact fmF_any k a n f d w hk hn hf hd d0
  by_cases h1 : u = 1
  · rw [if_neg h0, if_neg h0, if_pos h1, if_pos h1]
    exact fmQ_any k a n f d w hk hn hf hd d0
  · rw [if_neg h0, if_neg h0, if_neg h1, if_neg h1]
    exact fmG_any k a n f d w hk hn hf hd d0
end Go.Proofs.Ytggiklghcnojiaa
