
/- matrix: checkSquare, Mean, Equal; the document's SameList; the law's alike and of. (Written by mkmxj.py.) -/
import Derived.Test.YthakhmnlpmfdgaaP22
import Derived.Test.YthakhmnlpmfdgaaP14
namespace Go.Proofs.Ythakhmnlpmfdgaa
open Go.RowKit Go.IntWalk

/-- A quotient's bits; where there is none, a NaN that is drawn. -/
def quF (x y : Nat) (w : World) : Nat := (floatBits .quo .f64 x y).getD (nanF x y w)
def quG (x y : Nat) (w : World) : World := if (floatBits .quo .f64 x y).isSome then w else w.drew
theorem qu_run (x y : Nat) (w : World) : (binOp .quo 28 (.float .f64 x) (.float .f64 y)).run Try.prog w = .ok (.float .f64 (quF x y w)) (quG x y w) := by
  unfold quF quG
  cases h : floatBits .quo .f64 x y with
  | none =>
    have := nan_run .quo x y (by simp) h 28 w
    simpa using this
  | some z =>
    simp only [Option.getD_some, Option.isSome_some, if_true]
    exact run_float_arith w _ _ .f64 x y z h
theorem bl_qu {B : Nat} {w W : World} (h : Below B w W) (x y : Nat) : Below B w (quG x y W) := by
  unfold quG
  split
  · exact h
  · exact h.drew
theorem quF_lt (x y : Nat) (w : World) : quF x y w < 18446744073709551616 := by
  unfold quF
  cases h : floatBits .quo .f64 x y with
  | none => exact (nanF_nan x y w).1
  | some z =>
    have h1 : z < 2 ^ FloatKind.f64.format.width := Ieee.Format.div_lt _ h
    have h2 : (2 : Nat) ^ FloatKind.f64.format.width = 18446744073709551616 := by decide
    rw [h2] at h1
    exact h1
set_option maxRecDepth 4000 in
set_option maxHeartbeats 1000000 in
theorem square_good (r c n : Nat) (sa : Option Addr) (ka : Nat) (f : Nat → Nat) (w : World) (ha : Gd w r c sa n ka f) :
    Calls Try.prog 70 #[MV r c sa n ka] w fun e w' => e = .returned (.int .i64 (if r = c then 0 else 3)) ∧ Below w.heap.size w w' := by
  have HA0 : Hid ((w.alloc (MBox r c sa n ka)).heap[w.heap.size]? = some (MBox r c sa n ka)) := nblkM _ _
  have HB : Hid (Below w.heap.size w (w.alloc (MBox r c sa n ka))) := (Below.refl _ _).alloc (Nat.le_refl _) _
  have HCB := hid (fun W (hW : Below w.heap.size w W) => Check_any r c sa n ka _ W ((ha.below hW).2.2.2.1.fl) (by have := ha.le; omega))
  rw [ha.chk] at HCB
  obtain ⟨V, hV⟩ : ∃ V, Hid (w.alloc (MBox r c sa n ka) = V) := ⟨_, rfl⟩
  rw [hV.out] at HA0 HB
  have hV' := hV.out
  obtain ⟨x0, x1, x2⟩ := mcells_of HA0.out
  unfold MBox at hV'
  unfold MV at HCB ⊢
  clear ha
  by_cases h1 : r = c
  · have d1 : ((r : Int) != (c : Int)) = false := by rw [h1]; simp
    rw [if_pos h1]
    clear h1
    go_enter Try.func70, Try.ntmps70
    go_wp2_with fail
    refine (HCB.out _ HB.out).mono ?_
    rintro e w1 ⟨rfl, hb1⟩
    have HB1 := hid (HB.out.trans (hb1.mono HB.out.size))
    obtain ⟨x0, x1, x2⟩ := mcells_of (blkM HA0.out hb1)
    clear hb1
    go_wp2_with fail
    go_ret
    exact ⟨rfl, HB1.out⟩
  · have d1 : ((r : Int) != (c : Int)) = true := by simp; omega
    rw [if_neg h1]
    clear h1
    go_enter Try.func70, Try.ntmps70
    go_wp2_with fail
    refine (HCB.out _ HB.out).mono ?_
    rintro e w1 ⟨rfl, hb1⟩
    have HB1 := hid (HB.out.trans (hb1.mono HB.out.size))
    obtain ⟨x0, x1, x2⟩ := mcells_of (blkM HA0.out hb1)
    clear hb1
    go_wp2_with fail
    go_ret
    exact ⟨rfl, HB1.out⟩
/-- What Mean's closure answers. -/
def MeanP (f : Nat → Nat) (c i j x : Nat) : Prop := (i = j ∧ x = f (i * c + i)) ∨ (i ≠ j ∧ ∃ W W', x = quF (arF .add (f (i * c + j)) (f (j * c + i)) W) 4611686018427387904 W')
end Go.Proofs.Ythakhmnlpmfdgaa

namespace Go.Proofs.Ythakhmnlpmfdgaa
open Go.RowKit Go.IntWalk

set_option maxHeartbeats 400000 in
theorem bitsM_any (x : Nat) (w : World) (hx : x < 18446744073709551616) :
    Calls Try.prog 29 #[.float .f64 x] w fun e w' => e = .returned (.int .u64 (canonOf x)) ∧ w' = w := by
  have h1 := f64bits
  have ho := order_self x hx
  by_cases h : 9218868437227405312 < x % 9223372036854775808
  · rw [decide_eq_true h] at ho
    have H : Hid (9218868437227405312 < x % 9223372036854775808) := h
    clear h
    go_enter Try.func29, Try.ntmps29
    go_wp2
    go_ret
    exact ⟨ret_int (by unfold canonOf; rw [if_pos H.out]; rfl), rfl⟩
  · rw [decide_eq_false h] at ho
    have H : Hid (¬ 9218868437227405312 < x % 9223372036854775808) := h
    clear h
    go_enter Try.func29, Try.ntmps29
    go_wp2
    go_ret
    exact ⟨ret_int (by unfold canonOf; rw [if_neg H.out]), rfl⟩
set_option maxHeartbeats 400000 in
theorem rsameM_any (x y : Nat) (w : World) (hx : x < 18446744073709551616) (hy : y < 18446744073709551616) :
    Calls Try.prog 83 #[.float .f64 x, .float .f64 y] w fun e w' => e = .returned (.bool (canonOf x == canonOf y)) ∧ w' = w := by
  go_enter Try.func83, Try.ntmps83
  go_wp2_with fail
  refine (bitsM_any x _ hx).mono ?_
  rintro e w' ⟨rfl, rfl⟩
  go_wp2_with fail
  refine (bitsM_any y _ hy).mono ?_
  rintro e w' ⟨rfl, rfl⟩
  go_wp2_with fail
  go_ret
  exact ⟨ret_bool (nat_beq _ _), rfl⟩
set_option maxHeartbeats 1000000 in
theorem SameL_yes (sa sb : Option Addr) (n ca cb : Nat) (f g : Nat → Nat) (w : World) (ha : FnM w sa n ca f) (hb : FnM w sb n cb g) (he : ∀ k, k < n → canonOf (f k) = canonOf (g k)) :
    Calls Try.prog 64 #[.slice sa n ca, .slice sb n cb] w fun e w' => e = .returned (.bool true) ∧ Below w.heap.size w w' := by
  have hne : ((n : Int) != (n : Int)) = false := by simp
  have HA := hid ha
  have HB := hid hb
  have HE := hid he
  clear ha hb he
  go_enter Try.func64, Try.ntmps64
  go_wp2_with fail
  go_loopw [13] (fun iv wr => ∃ k : Nat, k ≤ n ∧ iv = .int .i64 k ∧ Hid (Below w.heap.size w wr)) (fun iv _ => n - (intOf iv).toNat)
  case atStart => exact ⟨0, Nat.zero_le _, rfl, Below.refl _ _⟩
  case round =>
    obtain ⟨k, hk, rfl, HBW⟩ := hrel
    by_cases hlt : k < n
    · rcases HA.out with ⟨_, h2, _⟩ | ⟨b, off, rfl, q1, _, _, q4⟩
      · omega
      rcases HB.out with ⟨_, h2, _⟩ | ⟨b2, off2, rfl, q5, _, _, q8⟩
      · omega
      have HKS : Hid (∀ W, Hid (Below w.heap.size w W) → (W.cell? ⟨b, off + k, none⟩ = some (.float .f64 (f k)) ∧ W.cell? ⟨b2, off2 + k, none⟩ = some (.float .f64 (g k))) ∧ Hid (Below w.heap.size w W)) := fun W hW => ⟨⟨(hW.out.cell (p := ⟨b, off + k, none⟩) q1).trans (q4 k hlt).1, (hW.out.cell (p := ⟨b2, off2 + k, none⟩) q5).trans (q8 k hlt).1⟩, hW⟩
      have HSM : Hid (∀ W, Calls Try.prog 83 #[.float .f64 (f k), .float .f64 (g k)] W fun e w' => e = .returned (.bool true) ∧ w' = W) := fun W => by
        have := rsameM_any (f k) (g k) W (q4 k hlt).2 (q8 k hlt).2
        rw [HE.out k hlt] at this
        simpa using this
      obtain ⟨x, hxx⟩ : ∃ x, Hid (f k = x) := ⟨_, rfl⟩
      obtain ⟨y, hyy⟩ : ∃ y, Hid (g k = y) := ⟨_, rfl⟩
      rw [hxx.out, hyy.out] at HKS HSM
      have hkI : (k : Int) < (n : Int) := by omega
      have hk0 : (0 : Int) ≤ (k : Int) := by omega
      have HQ0 : Hid (Below w.heap.size w wr.drew) := HBW.out.drew
      have HK := hid hlt
      clear q1 q4 q5 q8 hlt
      go_wp2_with fail
      refine wp_region_held_drew (S := fun W => (W.cell? ⟨b, off + k, none⟩ = some (.float .f64 x) ∧ W.cell? ⟨b2, off2 + k, none⟩ = some (.float .f64 y)) ∧ Hid (Below w.heap.size w W)) (by kernel_rfl) (HKS.out _ HQ0) (fun hHeld => ?_)
      refine take_at 0 16 (.slice (some ⟨b, off, none⟩) n ca) rfl rfl (by kernel_rfl) (by kernel_rfl) (by kernel_rfl) (fun _ _ _ h => h) (Or.inl ⟨by rfl, fun w hSw => by (try dsimp only at hSw); go_simp⟩) (by assumption) ?_
      simp only [Act.put, List.setIfInBounds_toArray, List.set_cons_zero, List.set_cons_succ]
      refine take_at 1 17 (.int .i64 k) rfl rfl (by kernel_rfl) (by kernel_rfl) (by kernel_rfl) (fun _ _ _ h => h) (Or.inl ⟨by rfl, fun w hSw => by (try dsimp only at hSw); go_simp⟩) (by assumption) ?_
      simp only [Act.put, List.setIfInBounds_toArray, List.set_cons_zero, List.set_cons_succ]
      refine take_at 2 18 (.pointer (some ⟨b, off + k, none⟩)) rfl rfl (by kernel_rfl) (by kernel_rfl) (by kernel_rfl) (fun _ _ _ h => h) (Or.inl ⟨by rfl, fun w hSw => by (try dsimp only at hSw); go_simp⟩) (by assumption) ?_
      simp only [Act.put, List.setIfInBounds_toArray, List.set_cons_zero, List.set_cons_succ]
      refine take_at 3 19 (.float .f64 x) rfl rfl (by kernel_rfl) (by kernel_rfl) (by kernel_rfl) (fun _ _ _ h => h) (Or.inl ⟨by rfl, fun w hSw => by (try dsimp only at hSw); go_simp⟩) (by assumption) ?_
      simp only [Act.put, List.setIfInBounds_toArray, List.set_cons_zero, List.set_cons_succ]
      refine take_at 4 20 (.slice (some ⟨b2, off2, none⟩) n cb) rfl rfl (by kernel_rfl) (by kernel_rfl) (by kernel_rfl) (fun _ _ _ h => h) (Or.inl ⟨by rfl, fun w hSw => by (try dsimp only at hSw); go_simp⟩) (by assumption) ?_
      simp only [Act.put, List.setIfInBounds_toArray, List.set_cons_zero, List.set_cons_succ]
      refine take_at 5 21 (.int .i64 k) rfl rfl (by kernel_rfl) (by kernel_rfl) (by kernel_rfl) (fun _ _ _ h => h) (Or.inl ⟨by rfl, fun w hSw => by (try dsimp only at hSw); go_simp⟩) (by assumption) ?_
      simp only [Act.put, List.setIfInBounds_toArray, List.set_cons_zero, List.set_cons_succ]
      refine take_at 6 22 (.pointer (some ⟨b2, off2 + k, none⟩)) rfl rfl (by kernel_rfl) (by kernel_rfl) (by kernel_rfl) (fun _ _ _ h => h) (Or.inl ⟨by rfl, fun w hSw => by (try dsimp only at hSw); go_simp⟩) (by assumption) ?_
      simp only [Act.put, List.setIfInBounds_toArray, List.set_cons_zero, List.set_cons_succ]
      refine take_at 7 23 (.float .f64 y) rfl rfl (by kernel_rfl) (by kernel_rfl) (by kernel_rfl) (fun _ _ _ h => h) (Or.inl ⟨by rfl, fun w hSw => by (try dsimp only at hSw); go_simp⟩) (by assumption) ?_
      simp only [Act.put, List.setIfInBounds_toArray, List.set_cons_zero, List.set_cons_succ]
      refine wpAnyH_ready (rs := [8]) (by kernel_rfl) (by simp) ?_
      refine AllReadyH.cons (o := _) rfl (fun K hK => ?_) AllReadyH.nil
      go_simp
      refine (HSM.out _).mono ?_
      rintro e u1 ⟨rfl, rfl⟩
      go_wp2_with fail
      refine hK.out _ _ (HKS.out _ HQ0) (fun hHeld1 => ?_)
      clear hK K
      try simp only [Act.put, List.setIfInBounds_toArray, List.set_cons_zero, List.set_cons_succ]
      refine take_at 9 25 (.bool false) rfl rfl (by kernel_rfl) (by kernel_rfl) (by kernel_rfl) (fun _ _ _ h => h) (Or.inl ⟨by rfl, fun w hSw => by (try dsimp only at hSw); go_simp⟩) (by assumption) ?_
      simp only [Act.put, List.setIfInBounds_toArray, List.set_cons_zero, List.set_cons_succ]
      refine wpAnyH_done (by kernel_rfl) ?_ _
      go_wp2_with fail
      have hk1 := HK.out
      refine ⟨⟨k + 1, by omega, by go_num, HQ0⟩, ?_⟩
      simp [intOf]; omega
    · go_wp2_with fail
      go_ret
      exact ⟨rfl, HBW.out⟩
theorem l_any (sa : Option Addr) (sn sc : Nat) (xs : List Nat) (w : World) (hu : U64At w sa sn xs) (hn : sn ≤ 17592186043904) :
    Calls Try.prog 22 #[.slice sa sn sc] w fun r w' => ∃ ta cap, r = .returned (.slice ta sn cap) ∧ FlM w' ta sn cap xs ∧ Below w.heap.size w w' := by
  refine (Of64_any sa sn sc xs w hu hn).mono ?_
  rintro r w' ⟨v, rfl, h1, h2, h3⟩
  by_cases c : xs = []
  · obtain rfl := h2 c
    subst c
    have h0 : sn = 0 := hu.1.symm
    subst h0
    exact ⟨none, 0, rfl, ⟨rfl, fun x hx => (by cases hx), Or.inl ⟨rfl, rfl, rfl⟩⟩, h3⟩
  · rcases h1.2 with ⟨_, e⟩ | ⟨g, cap, cur, rfl, k1, k2, k3, k4, k5, k6⟩
    · exact absurd (List.length_eq_zero_iff.1 e) c
    · rw [hu.1] at k3 ⊢
      refine ⟨_, cap, rfl, ⟨hu.1, hu.2.1, Or.inr ⟨g, 0, rfl, (Array.getElem?_eq_some_iff.1 k2).1, k3, k4, fun j hj => ?_⟩⟩, h3⟩
      have e1 : (cur.toList.take (xs.length * 1))[j]? = (xs.map (Value.float .f64))[j]? := by rw [k6]
      have hj2 : j < xs.length := by rw [hu.1]; exact hj
      rw [List.getElem?_take, if_pos (by omega), List.getElem?_map, List.getElem?_eq_getElem hj2] at e1
      have e2 : cur[j]? = some (.float .f64 (xs.getD j 0)) := by
        rw [← Array.getElem?_toList, e1, List.getD_eq_getElem?_getD, List.getElem?_eq_getElem hj2]
        rfl
      rw [Nat.zero_add]
      simp [World.cell?, k2, e2]
theorem getD_map (n : Nat) (f : Nat → Nat) (k : Nat) (hk : k < n) : ((List.range n).map f).getD k 0 = f k := by
  rw [List.getD_eq_getElem?_getD, List.getElem?_map, List.getElem?_range hk]
  rfl
theorem FnM.toFl {w : World} {sa : Option Addr} {n cap : Nat} {xs : List Nat} (hl : xs.length = n) (h : FnM w sa n cap (fun j => xs.getD j 0)) : FlM w sa n cap xs := by
  have h1 := h.fl
  have e : (List.range n).map (fun j => xs.getD j 0) = xs := by
    apply List.ext_getElem?
    intro i
    by_cases hi : i < n
    · rw [List.getElem?_map, List.getElem?_range hi, List.getElem?_eq_getElem (by omega)]
      simp [List.getD_eq_getElem?_getD, List.getElem?_eq_getElem (show i < xs.length by omega)]
    · rw [List.getElem?_eq_none (by simp; omega), List.getElem?_eq_none (by omega)]
  rw [e] at h1
  exact h1
theorem sto_fl {W : World} {b : Nat} {r c r0 c0 : Int} {sa sb s0 : Option Addr} {n cap m k n0 k0 : Nat} {xs : List Nat} (h : FlM W sb m k xs) (hb : W.heap[b]? = some (MBox r0 c0 s0 n0 k0)) : FlM (StoM W b r c sa n cap) sb m k xs := FnM.toFl h.1 (StoM.fn h.fn hb)
end Go.Proofs.Ythakhmnlpmfdgaa

namespace Go.Proofs.Ythakhmnlpmfdgaa
open Go.RowKit Go.IntWalk

theorem canon_val {x v : Nat} (h : canonOf x = v) (hv : v ≠ 9221120237041090561) : x = v := by
  unfold canonOf at h
  split at h
  · exact absurd h.symm hv
  · exact h
theorem finF_of {n : Nat} {o : Nat → Nat} (h : ∀ k, k < n → (expOf (o k) == 2047) = false) : finF n o = true := by
  unfold finF finM
  rw [List.all_eq_true]
  intro x hx
  obtain ⟨k, hk, rfl⟩ := List.mem_map.1 hx
  rw [h k (List.mem_range.1 hk)]
  rfl
/-- Four numbers, two numbers as a function. -/
def q4 (a b c d : Nat) : Nat → Nat | 0 => a | 1 => b | 2 => c | _ => d
def q2 (a b : Nat) : Nat → Nat | 0 => a | _ => b
def L4 (a b c d : Nat) : Obj := .cells #[.float .f64 a, .float .f64 b, .float .f64 c, .float .f64 d] 28
def L2 (a b : Nat) : Obj := .cells #[.float .f64 a, .float .f64 b] 28
theorem l4_fn {W : World} {b x y z t : Nat} (h : W.heap[b]? = some (L4 x y z t)) (hx : x < 18446744073709551616) (hy : y < 18446744073709551616) (hz : z < 18446744073709551616) (ht : t < 18446744073709551616) : FnM W (some ⟨b, 0, none⟩) 4 4 (q4 x y z t) := by
  refine Or.inr ⟨b, 0, rfl, (Array.getElem?_eq_some_iff.1 h).1, Nat.le_refl _, by decide, fun j hj => ?_⟩
  unfold L4 at h
  match j, hj with
  | 0, _ => exact ⟨by simp [World.cell?, h, q4], hx⟩
  | 1, _ => exact ⟨by simp [World.cell?, h, q4], hy⟩
  | 2, _ => exact ⟨by simp [World.cell?, h, q4], hz⟩
  | 3, _ => exact ⟨by simp [World.cell?, h, q4], ht⟩
theorem l2_fn {W : World} {b x y : Nat} (h : W.heap[b]? = some (L2 x y)) (hx : x < 18446744073709551616) (hy : y < 18446744073709551616) : FnM W (some ⟨b, 0, none⟩) 2 2 (q2 x y) := by
  refine Or.inr ⟨b, 0, rfl, (Array.getElem?_eq_some_iff.1 h).1, Nat.le_refl _, by decide, fun j hj => ?_⟩
  unfold L2 at h
  match j, hj with
  | 0, _ => exact ⟨by simp [World.cell?, h, q2], hx⟩
  | 1, _ => exact ⟨by simp [World.cell?, h, q2], hy⟩
theorem fn_cell {W : World} {g n cap : Nat} {o : Nat → Nat} (h : FnM W (some ⟨g, 0, none⟩) n cap o) (k : Nat) (hk : k < n) : W.cell? ⟨g, k, none⟩ = some (.float .f64 (o k)) ∧ g < W.heap.size := by
  rcases h with ⟨h1, _, _⟩ | ⟨b, off, h1, h2, _, _, h5⟩
  · cases h1
  · cases h1
    have := (h5 k hk).1
    rw [Nat.zero_add] at this
    exact ⟨this, h2⟩
theorem ex_dots : dotM (fun k => q4 4607182418800017408 4611686018427387904 4613937818241073152 4616189618054758400 (0 * 2 + k)) (fun k => q4 0 4607182418800017408 4607182418800017408 0 (k * 2 + 0)) 2 = 4611686018427387904 ∧ dotM (fun k => q4 4607182418800017408 4611686018427387904 4613937818241073152 4616189618054758400 (0 * 2 + k)) (fun k => q4 0 4607182418800017408 4607182418800017408 0 (k * 2 + 1)) 2 = 4607182418800017408 ∧ dotM (fun k => q4 4607182418800017408 4611686018427387904 4613937818241073152 4616189618054758400 (1 * 2 + k)) (fun k => q4 0 4607182418800017408 4607182418800017408 0 (k * 2 + 0)) 2 = 4616189618054758400 ∧ dotM (fun k => q4 4607182418800017408 4611686018427387904 4613937818241073152 4616189618054758400 (1 * 2 + k)) (fun k => q4 0 4607182418800017408 4607182418800017408 0 (k * 2 + 1)) 2 = 4613937818241073152 := by decide +kernel
theorem ex_sand : dotM (fun k => q2 4607182418800017408 4611686018427387904 (0 * 2 + k)) (fun k => q4 4607182418800017408 0 0 4607182418800017408 (k * 2 + 0)) 2 = 4607182418800017408 ∧ dotM (fun k => q2 4607182418800017408 4611686018427387904 (0 * 2 + k)) (fun k => q4 4607182418800017408 0 0 4607182418800017408 (k * 2 + 1)) 2 = 4611686018427387904 ∧ dotM (fun k => q2 4607182418800017408 4611686018427387904 (0 * 2 + k)) (fun k => q2 4607182418800017408 4611686018427387904 (0 * 2 + k)) 2 = 4617315517961601024 := by decide +kernel
theorem Check_ex (b1 : Nat) (w : World) (h1 : w.heap[b1]? = some (L4 4607182418800017408 4611686018427387904 4613937818241073152 4616189618054758400)) :
    Calls Try.prog 66 #[.agg #[.int .i64 2, .int .i64 2, .slice (some ⟨b1, 0, none⟩) 4 4]] w fun e w' => e = .returned (.int .i64 0) ∧ Below w.heap.size w w' := by
  have f1 := l4_fn h1 (by decide) (by decide) (by decide) (by decide)
  have g1 : Gd w 2 2 _ 4 4 _ := ⟨by decide, by decide, by decide, f1, by decide +kernel⟩
  have := Check_any 2 2 _ 4 4 _ w f1.fl (by decide)
  have e : chkM 2 2 4 _ = 0 := g1.chk
  rw [e] at this
  exact this
end Go.Proofs.Ythakhmnlpmfdgaa

namespace Go.Proofs.Ythakhmnlpmfdgaa
open Go.RowKit Go.IntWalk

theorem prod_comm (a b : Ieee.Datum) : a.product b = b.product a := by
  cases a <;> cases b <;> simp [Ieee.Datum.product, Nat.mul_comm, Int.add_comm, Bool.xor_comm]
theorem caf_comm (x y : Nat) : caf .mul x y = caf .mul y x := by
  unfold caf floatBits
  dsimp only
  unfold Ieee.Format.mul
  rw [prod_comm]
theorem dotM_comm (f g : Nat → Nat) : ∀ n, dotM f g n = dotM g f n
  | 0 => rfl
  | n + 1 => by rw [dotM, dotM, dotM_comm f g n, caf_comm]
/-- Whether all of so many canonical numbers are finite. -/
def finV (r c : Nat) (v : Nat → Nat → Nat) : Bool := (List.range r).all fun i => (List.range c).all fun j => !(v i j / 4503599627370496 % 2048 == 2047)
theorem finV_iff (r c : Nat) (v : Nat → Nat → Nat) : finV r c v = true ↔ ∀ i j, i < r → j < c → (v i j / 4503599627370496 % 2048 == 2047) = false := by
  unfold finV
  rw [List.all_eq_true]
  constructor
  · intro h i j hi hj
    have h1 := h i (List.mem_range.2 hi)
    rw [List.all_eq_true] at h1
    have h2 := h1 j (List.mem_range.2 hj)
    simpa using h2
  · intro h i hi
    rw [List.all_eq_true]
    intro j hj
    rw [h i j (List.mem_range.1 hi) (List.mem_range.1 hj)]
    rfl
theorem finF_iff (n : Nat) (o : Nat → Nat) : finF n o = true ↔ ∀ k, k < n → (expOf (o k) == 2047) = false := by
  constructor
  · intro h k hk
    unfold finF finM at h
    rw [List.all_eq_true] at h
    have := h (o k) (List.mem_map.2 ⟨k, List.mem_range.2 hk, rfl⟩)
    simpa using this
  · exact finF_of
theorem split_k {r c k : Nat} (hk : k < r * c) : k / c < r ∧ k % c < c ∧ k / c * c + k % c = k := by
  have hc : 0 < c := by
    apply Classical.byContradiction
    intro hc
    have : c = 0 := by omega
    subst this
    omega
  exact ⟨(Nat.div_lt_iff_lt_mul hc).2 hk, Nat.mod_lt _ hc, by rw [Nat.mul_comm]; exact Nat.div_add_mod k c⟩
theorem finF_V {r c : Nat} {o : Nat → Nat} {v : Nat → Nat → Nat} (h : ∀ i j, i < r → j < c → canonOf (o (i * c + j)) = v i j) : finF (r * c) o = finV r c v := by
  rw [Bool.eq_iff_iff, finF_iff, finV_iff]
  constructor
  · intro h1 i j hi hj
    have := h1 (i * c + j) (place_lt hi hj)
    unfold expOf at this
    rw [h i j hi hj] at this
    exact this
  · intro h1 k hk
    obtain ⟨q1, q2, q3⟩ := split_k hk
    have := h1 _ _ q1 q2
    rw [← h _ _ q1 q2, q3] at this
    exact this
theorem finV_turn {r c : Nat} {v v2 : Nat → Nat → Nat} (h : ∀ i j, i < r → j < c → v2 j i = v i j) : finV c r v2 = finV r c v := by
  rw [Bool.eq_iff_iff, finV_iff, finV_iff]
  constructor
  · intro h1 i j hi hj
    rw [← h i j hi hj]
    exact h1 j i hj hi
  · intro h1 j i hj hi
    rw [h i j hi hj]
    exact h1 i j hi hj
theorem fin_turn {r c n : Nat} {f o : Nat → Nat} (hn : n = r * c) (hf : finF n f = true) (h : ∀ i j, i < c → j < r → o (i * r + j) = f (j * c + i)) : finF (c * r) o = true := by
  rw [finF_iff] at hf ⊢
  intro k hk
  obtain ⟨q1, q2, q3⟩ := split_k hk
  rw [← q3, h _ _ q1 q2]
  exact hf _ (by rw [hn]; exact place_lt q2 q1)
/-- What a call hands back that may refuse. -/
def ResM (E : Int) (r c : Nat) (v : Nat → Nat → Nat) (W : World) (X0 X1 : Int) (X2 : Option Addr) (X3 X4 : Nat) : Prop :=
  (E = 0 ∧ X0 = r ∧ X1 = c ∧ X3 = r * c ∧ X4 = r * c ∧ ∃ (g : Nat) (o : Nat → Nat), X2 = some ⟨g, 0, none⟩ ∧ FnM W X2 X3 X4 o ∧ (∀ i j, i < r → j < c → canonOf (o (i * c + j)) = v i j) ∧ finF (r * c) o = true) ∨ (E ≠ 0 ∧ X0 = 0 ∧ X1 = 0 ∧ X2 = none ∧ X3 = 0 ∧ X4 = 0)
theorem ResM.below {E : Int} {r c : Nat} {v : Nat → Nat → Nat} {W W' : World} {X0 X1 : Int} {X2 : Option Addr} {X3 X4 : Nat} (h : ResM E r c v W X0 X1 X2 X3 X4) (hb : Below W.heap.size W W') : ResM E r c v W' X0 X1 X2 X3 X4 := by
  rcases h with ⟨h0, h1, h2, h3, h4, g, o, h5, h6, h7, h8⟩ | h
  · exact Or.inl ⟨h0, h1, h2, h3, h4, g, o, h5, h6.below hb, h7, h8⟩
  · exact Or.inr h
theorem ResM.sto {E : Int} {r c : Nat} {v : Nat → Nat → Nat} {W : World} {X0 X1 : Int} {X2 : Option Addr} {X3 X4 : Nat} (h : ResM E r c v W X0 X1 X2 X3 X4) {b : Nat} {r1 c1 r0 c0 : Int} {s1 s0 : Option Addr} {n1 k1 n0 k0 : Nat} (hb : W.heap[b]? = some (MBox r0 c0 s0 n0 k0)) : ResM E r c v (StoM W b r1 c1 s1 n1 k1) X0 X1 X2 X3 X4 := by
  rcases h with ⟨h0, h1, h2, h3, h4, g, o, h5, h6, h7, h8⟩ | h
  · exact Or.inl ⟨h0, h1, h2, h3, h4, g, o, h5, StoM.fn h6 hb, h7, h8⟩
  · exact Or.inr h
def mulE (r c r2 c2 : Nat) (v : Nat → Nat → Nat) : Int := if c ≠ r2 then 3 else if finV r c2 v = true then 0 else 5
def addE (r c r2 c2 : Nat) (v : Nat → Nat → Nat) : Int := if ¬ (r = r2 ∧ c = c2) then 3 else if finV r c v = true then 0 else 5
theorem res_of (r c g : Nat) (o : Nat → Nat) (v : Nat → Nat → Nat) (E : Int) (W : World) (hE : E = if finV r c v = true then 0 else 5) (hf : FnM W (some ⟨g, 0, none⟩) (r * c) (r * c) o) (hv : ∀ i j, i < r → j < c → canonOf (o (i * c + j)) = v i j) : ∃ X0 X1 X2 X3 X4, AnsM r c (r * c) g o = .tuple #[.agg #[.int .i64 X0, .int .i64 X1, .slice X2 X3 X4], .int .i64 E] ∧ ResM E r c v W X0 X1 X2 X3 X4 := by
  unfold AnsM
  rw [finF_V hv]
  by_cases h : finV r c v = true
  · rw [if_pos h] at hE
    subst hE
    rw [if_pos h, if_pos h]
    exact ⟨_, _, _, _, _, rfl, Or.inl ⟨rfl, rfl, rfl, rfl, rfl, g, o, rfl, hf, hv, by rw [finF_V hv]; exact h⟩⟩
  · rw [if_neg h] at hE
    subst hE
    rw [if_neg h, if_neg h]
    exact ⟨_, _, _, _, _, rfl, Or.inr ⟨by decide, rfl, rfl, rfl, rfl, rfl⟩⟩
theorem res_non (r c : Nat) (v : Nat → Nat → Nat) (E : Int) (W : World) (hE : E ≠ 0) : ∃ X0 X1 X2 X3 X4, NonM E = .tuple #[.agg #[.int .i64 X0, .int .i64 X1, .slice X2 X3 X4], .int .i64 E] ∧ ResM E r c v W X0 X1 X2 X3 X4 := ⟨_, _, _, _, _, rfl, Or.inr ⟨hE, rfl, rfl, rfl, rfl, rfl⟩⟩
theorem gd_zero (W : World) : Gd W 0 0 none 0 0 (fun _ => 0) := ⟨by decide, by decide, rfl, Or.inl ⟨rfl, rfl, rfl⟩, rfl⟩
/-- Transpose of what was handed back, beside an error too. -/
theorem Trn_res (E : Int) (r c : Nat) (hr : r ≤ 12) (hc : c ≤ 12) (v : Nat → Nat → Nat) (X0 X1 : Int) (X2 : Option Addr) (X3 X4 : Nat) (w : World) (h : ResM E r c v w X0 X1 X2 X3 X4) :
    Calls Try.prog 52 #[.agg #[.int .i64 X0, .int .i64 X1, .slice X2 X3 X4]] w fun e w' => (∃ Y0 Y1 Y2 Y3 Y4, e = .returned (.tuple #[.agg #[.int .i64 Y0, .int .i64 Y1, .slice Y2 Y3 Y4], .int .i64 0]) ∧ (E = 0 → ResM E c r (fun j i => v i j) w' Y0 Y1 Y2 Y3 Y4)) ∧ Below w.heap.size w w' := by
  rcases h with ⟨h0, rfl, rfl, rfl, rfl, g, o, rfl, hf, hv, hfin⟩ | ⟨h0, rfl, rfl, rfl, rfl, rfl⟩
  · refine (Trn_ok r c (r * c) _ (r * c) o w ⟨hr, hc, rfl, hf, hfin⟩).mono ?_
    rintro e w' ⟨⟨g2, o2, rfl, hf2, hv2⟩, hbb⟩
    exact ⟨⟨_, _, _, _, _, rfl, fun _ => Or.inl ⟨h0, rfl, rfl, rfl, rfl, g2, o2, rfl, hf2, fun i j hi hj => by rw [hv2 i j hi hj]; exact hv j i hj hi, fin_turn rfl hfin hv2⟩⟩, hbb⟩
  · refine (Trn_ok 0 0 0 none 0 (fun _ => 0) w (gd_zero w)).mono ?_
    rintro e w' ⟨⟨g2, o2, rfl, hf2, hv2⟩, hbb⟩
    exact ⟨⟨_, _, _, _, _, rfl, fun h => absurd h h0⟩, hbb⟩
/-- Transpose of anything: something, and what Check tells. -/
theorem Trn_some (r c : Int) (n : Nat) (sa : Option Addr) (ka : Nat) (xs : List Nat) (w : World) (ha : FlM w sa n ka xs) (hn : n ≤ 17592186043904) :
    Calls Try.prog 52 #[.agg #[.int .i64 r, .int .i64 c, .slice sa n ka]] w fun e w' => (∃ Y0 Y1 Y2 Y3 Y4, e = .returned (.tuple #[.agg #[.int .i64 Y0, .int .i64 Y1, .slice Y2 Y3 Y4], .int .i64 (chkM r c n xs)])) ∧ Below w.heap.size w w' := by
  by_cases h : chkM r c n xs = 0
  · obtain ⟨a, b, rfl, rfl, h1, h2, h3, h4⟩ := chk_some h
    have hg : Gd w a b sa n ka (fun j => xs.getD j 0) := ⟨h1, h2, h3, ha.fn, by
      unfold finF
      rw [show (List.range n).map (fun j => xs.getD j 0) = xs from by
        have := ha.1
        apply List.ext_getElem?
        intro i
        by_cases hi : i < n
        · rw [List.getElem?_map, List.getElem?_range hi, List.getElem?_eq_getElem (by omega)]
          simp [List.getD_eq_getElem?_getD, List.getElem?_eq_getElem (show i < xs.length by omega)]
        · rw [List.getElem?_eq_none (by simp; omega), List.getElem?_eq_none (by omega)]]
      exact h4⟩
    refine (Trn_ok a b n sa ka _ w hg).mono ?_
    rintro e w' ⟨⟨g, o, rfl, _, _⟩, hb⟩
    rw [h]
    exact ⟨⟨_, _, _, _, _, rfl⟩, hb⟩
  · refine (Trn_bad r c n sa ka xs w ha hn h).mono ?_
    rintro e w' ⟨rfl, hb⟩
    exact ⟨⟨_, _, _, _, _, rfl⟩, hb⟩
theorem gd_of {r c : Int} {n : Nat} {sa : Option Addr} {ka : Nat} {xs : List Nat} {w : World} (ha : FlM w sa n ka xs) (h : chkM r c n xs = 0) : ∃ a b : Nat, r = a ∧ c = b ∧ Gd w a b sa n ka (fun j => xs.getD j 0) := by
  obtain ⟨a, b, rfl, rfl, h1, h2, h3, h4⟩ := chk_some h
  refine ⟨a, b, rfl, rfl, h1, h2, h3, ha.fn, ?_⟩
  unfold finF
  rw [show (List.range n).map (fun j => xs.getD j 0) = xs from by
    have := ha.1
    apply List.ext_getElem?
    intro i
    by_cases hi : i < n
    · rw [List.getElem?_map, List.getElem?_range hi, List.getElem?_eq_getElem (by omega)]
      simp [List.getD_eq_getElem?_getD, List.getElem?_eq_getElem (show i < xs.length by omega)]
    · rw [List.getElem?_eq_none (by simp; omega), List.getElem?_eq_none (by omega)]]
  exact h4
theorem gd_sto {W : World} {r c n cap : Nat} {sa : Option Addr} {f : Nat → Nat} (h : Gd W r c sa n cap f) {b : Nat} {r1 c1 r0 c0 : Int} {s1 s0 : Option Addr} {n1 k1 n0 k0 : Nat} (hb : W.heap[b]? = some (MBox r0 c0 s0 n0 k0)) : Gd (StoM W b r1 c1 s1 n1 k1) r c sa n cap f := ⟨h.1, h.2.1, h.2.2.1, StoM.fn h.2.2.2.1 hb, h.2.2.2.2⟩
end Go.Proofs.Ythakhmnlpmfdgaa

namespace Go.Proofs.Ythakhmnlpmfdgaa
open Go.RowKit Go.IntWalk

/-- Whether numbers are alike, place by place. -/
def eqF (n : Nat) (f g : Nat → Nat) : Bool := (List.range n).all fun k => canonOf (f k) == canonOf (g k)
theorem eqF_iff (n : Nat) (f g : Nat → Nat) : eqF n f g = true ↔ ∀ k, k < n → canonOf (f k) = canonOf (g k) := by
  unfold eqF
  rw [List.all_eq_true]
  constructor
  · intro h k hk
    simpa using h k (List.mem_range.2 hk)
  · intro h k hk
    simpa using h k (List.mem_range.1 hk)
theorem eqF_no {n : Nat} {f g : Nat → Nat} {k : Nat} (hk : k < n) (h : ¬ canonOf (f k) = canonOf (g k)) : eqF n f g = false := by
  cases hc : eqF n f g with
  | false => rfl
  | true => exact absurd ((eqF_iff n f g).1 hc k hk) h
end Go.Proofs.Ythakhmnlpmfdgaa

namespace Go.Proofs.Ythakhmnlpmfdgaa
open Go.RowKit Go.IntWalk

set_option maxRecDepth 4000 in
set_option maxHeartbeats 1000000 in
theorem square_bad (r c : Int) (n : Nat) (sa : Option Addr) (ka : Nat) (xs : List Nat) (w : World) (ha : FlM w sa n ka xs) (hn : n ≤ 17592186043904) (hE : chkM r c n xs ≠ 0) :
    Calls Try.prog 70 #[MV r c sa n ka] w fun e w' => e = .returned (.int .i64 (chkM r c n xs)) ∧ Below w.heap.size w w' := by
  have HA0 : Hid ((w.alloc (MBox r c sa n ka)).heap[w.heap.size]? = some (MBox r c sa n ka)) := nblkM _ _
  have HB : Hid (Below w.heap.size w (w.alloc (MBox r c sa n ka))) := (Below.refl _ _).alloc (Nat.le_refl _) _
  have HCB := hid (fun W (hW : Below w.heap.size w W) => Check_any r c sa n ka xs W (ha.below hW) hn)
  obtain ⟨E, hEE⟩ : ∃ E, Hid (chkM r c n xs = E) := ⟨_, rfl⟩
  rw [hEE.out] at HCB hE
  rw [hEE.out]
  have hne : (E != 0) = true := by simpa using hE
  obtain ⟨V, hV⟩ : ∃ V, Hid (w.alloc (MBox r c sa n ka) = V) := ⟨_, rfl⟩
  rw [hV.out] at HA0 HB
  have hV' := hV.out
  obtain ⟨x0, x1, x2⟩ := mcells_of HA0.out
  unfold MBox at hV'
  unfold MV at HCB ⊢
  clear ha hn hE
  go_enter Try.func70, Try.ntmps70
  go_wp2_with fail
  refine (HCB.out _ HB.out).mono ?_
  rintro e w1 ⟨rfl, hb1⟩
  have HB1 := hid (HB.out.trans (hb1.mono HB.out.size))
  clear hb1
  go_wp2_with fail
  go_ret
  exact ⟨rfl, HB1.out⟩
end Go.Proofs.Ythakhmnlpmfdgaa

namespace Go.Proofs.Ythakhmnlpmfdgaa
open Go.RowKit Go.IntWalk

/-- What Sandwich hands back: a good symmetric matrix, or none. -/
def SymR (E : Int) (W : World) (X0 X1 : Int) (X2 : Option Addr) (X3 X4 : Nat) : Prop :=
  (E = 0 ∧ ∃ (r : Nat) (o : Nat → Nat), X0 = r ∧ X1 = r ∧ Gd W r r X2 X3 X4 o ∧ ∀ i j, i < r → j < r → o (i * r + j) = o (j * r + i)) ∨ (E ≠ 0 ∧ X0 = 0 ∧ X1 = 0 ∧ X2 = none ∧ X3 = 0 ∧ X4 = 0)
theorem sym_of (r g : Nat) (hr : r ≤ 12) (o : Nat → Nat) (W : World) (hf : FnM W (some ⟨g, 0, none⟩) (r * r) (r * r) o) (hv : ∀ i j, i < r → j < r → o (i * r + j) = o (j * r + i)) : ∃ X0 X1 X2 X3 X4 E, AnsM r r (r * r) g o = .tuple #[.agg #[.int .i64 X0, .int .i64 X1, .slice X2 X3 X4], .int .i64 E] ∧ SymR E W X0 X1 X2 X3 X4 := by
  unfold AnsM
  by_cases h : finF (r * r) o = true
  · rw [if_pos h, if_pos h]
    exact ⟨_, _, _, _, _, _, rfl, Or.inl ⟨rfl, r, o, rfl, rfl, ⟨hr, hr, rfl, hf, h⟩, hv⟩⟩
  · rw [if_neg h, if_neg h]
    exact ⟨_, _, _, _, _, _, rfl, Or.inr ⟨by decide, rfl, rfl, rfl, rfl, rfl⟩⟩
theorem sym_non (E : Int) (W : World) (hE : E ≠ 0) : ∃ X0 X1 X2 X3 X4 F, NonM E = .tuple #[.agg #[.int .i64 X0, .int .i64 X1, .slice X2 X3 X4], .int .i64 F] ∧ SymR F W X0 X1 X2 X3 X4 := ⟨_, _, _, _, _, _, rfl, Or.inr ⟨hE, rfl, rfl, rfl, rfl, rfl⟩⟩
end Go.Proofs.Ythakhmnlpmfdgaa
