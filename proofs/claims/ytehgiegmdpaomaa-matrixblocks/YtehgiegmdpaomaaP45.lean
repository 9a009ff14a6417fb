
/- matrix.Stack of any two; copy as a step. (Written by mkndi.py.) -/
import Derived.Test.YtehgiegmdpaomaaP39
import Derived.Test.YtehgiegmdpaomaaP34
import Derived.Laws.CopyRow
import Derived.Laws.CopyOwn
namespace Go.Proofs.Ytehgiegmdpaomaa
open Go.RowKit Go.IntWalk

set_option maxRecDepth 4000 in
set_option maxHeartbeats 1000000 in
theorem Stack_bad (r c r2 c2 : Int) (n n2 : Nat) (sa sb : Option Addr) (ka kb : Nat) (xs ys : List Nat) (w : World) (ha : FlM w sa n ka xs) (hb : FlM w sb n2 kb ys) (hn : n ≤ 17592186043904) (hn2 : n2 ≤ 17592186043904) (hE : first2 (chkM r c n xs) (chkM r2 c2 n2 ys) ≠ 0) :
    Calls Try.prog 10 #[MV r c sa n ka, MV r2 c2 sb n2 kb] w fun e w' => e = .returned (NonM (first2 (chkM r c n xs) (chkM r2 c2 n2 ys))) ∧ Below w.heap.size w w' := by
  obtain ⟨t1, t2, t3, t4, t5⟩ := three_b w (MBox r c sa n ka) (MBox r2 c2 sb n2 kb) (MBox 0 0 none 0 0)
  have HCB := hid (fun W (hW : Below w.heap.size w W) => checkBoth_any r c r2 c2 n n2 sa sb ka kb _ _ W (ha.below hW) (hb.below hW) hn hn2)
  obtain ⟨E, hEE⟩ : ∃ E, Hid (first2 (chkM r c n xs) (chkM r2 c2 n2 ys) = E) := ⟨_, rfl⟩
  rw [hEE.out] at HCB hE
  rw [hEE.out]
  have hne : (E != 0) = true := by simpa using hE
  obtain ⟨V, hV⟩ : ∃ V, Hid (((w.alloc (MBox r c sa n ka)).alloc (MBox r2 c2 sb n2 kb)).alloc (MBox 0 0 none 0 0) = V) := ⟨_, rfl⟩
  rw [hV.out] at t1 t2 t3 t4 t5
  have hV' := hV.out
  have HB := hid t4
  have HR := hid t3
  obtain ⟨x0, x1, x2⟩ := mcells_of t1
  obtain ⟨v0, v1, v2⟩ := mcells_of t2
  unfold MBox at hV'
  unfold NonM
  unfold MV at HCB ⊢
  clear t1 t2 t3 t4 t5 ha hb hn hn2 hE
  go_enter Try.func10, Try.ntmps10
  go_wp2_with fail
  refine (HCB.out _ HB.out).mono ?_
  rintro e w1 ⟨rfl, hb1⟩
  have HB1 := hid (HB.out.trans (hb1.mono HB.out.size))
  have HR1 := hid (blkM HR.out hb1)
  clear hb1
  go_wp2_with fail
  refine (refused_any E _).mono ?_
  rintro e w2 ⟨rfl, hb2⟩
  have HB2 := hid (HB1.out.trans (hb2.mono HB1.out.size))
  have HR2 := hid (blkM HR1.out hb2)
  obtain ⟨r0, r1, r2⟩ := mcells_of HR2.out
  have fz := frzM HR2.out
  unfold MV
  clear hb2
  go_wp2_with fail
  exact bodyPost_ret (v := .tuple #[MV 0 0 none 0 0, .int .i64 E]) (by simp [results, Try.results10, go_sem, r0, r1, r2, MV]) rfl ⟨rfl, StoM.below HB2.out (by omega)⟩
set_option maxRecDepth 4000 in
set_option maxHeartbeats 1000000 in
theorem Stack_shape (r c r2 c2 n n2 : Nat) (sa sb : Option Addr) (ka kb : Nat) (f f2 : Nat → Nat) (w : World) (ha : Gd w r c sa n ka f) (hb : Gd w r2 c2 sb n2 kb f2) (hs : c ≠ c2) :
    Calls Try.prog 10 #[MV r c sa n ka, MV r2 c2 sb n2 kb] w fun e w' => e = .returned (NonM 3) ∧ Below w.heap.size w w' := by
  obtain ⟨t1, t2, t3, t4, t5⟩ := three_b w (MBox r c sa n ka) (MBox r2 c2 sb n2 kb) (MBox 0 0 none 0 0)
  have HCB := hid (fun W (hW : Below w.heap.size w W) => checkBoth_any r c r2 c2 n n2 sa sb ka kb _ _ W ((ha.below hW).2.2.2.1.fl) ((hb.below hW).2.2.2.1.fl) (by have := ha.le; omega) (by have := hb.le; omega))
  rw [ha.chk, hb.chk, show first2 0 0 = 0 by rfl] at HCB
  have hne : ((c : Int) != (c2 : Int)) = true := by simp; omega
  obtain ⟨V, hV⟩ : ∃ V, Hid (((w.alloc (MBox r c sa n ka)).alloc (MBox r2 c2 sb n2 kb)).alloc (MBox 0 0 none 0 0) = V) := ⟨_, rfl⟩
  rw [hV.out] at t1 t2 t3 t4 t5
  have hV' := hV.out
  have HB := hid t4
  have HR := hid t3
  have HA0 := hid t1
  have HA1 := hid t2
  obtain ⟨x0, x1, x2⟩ := mcells_of t1
  obtain ⟨v0, v1, v2⟩ := mcells_of t2
  unfold MBox at hV'
  unfold NonM
  unfold MV at HCB ⊢
  clear t1 t2 t3 t4 t5 ha hb hs
  go_enter Try.func10, Try.ntmps10
  go_wp2_with fail
  refine (HCB.out _ HB.out).mono ?_
  rintro e w1 ⟨rfl, hb1⟩
  have HB1 := hid (HB.out.trans (hb1.mono HB.out.size))
  have HR1 := hid (blkM HR.out hb1)
  obtain ⟨x0, x1, x2⟩ := mcells_of (blkM HA0.out hb1)
  obtain ⟨v0, v1, v2⟩ := mcells_of (blkM HA1.out hb1)
  clear hb1
  go_wp2_with fail
  refine (refused_any 3 _).mono ?_
  rintro e w2 ⟨rfl, hb2⟩
  have HB2 := hid (HB1.out.trans (hb2.mono HB1.out.size))
  have HR2 := hid (blkM HR1.out hb2)
  obtain ⟨r0, r1, r2⟩ := mcells_of HR2.out
  have fz := frzM HR2.out
  unfold MV
  clear hb2
  go_wp2_with fail
  exact bodyPost_ret (v := .tuple #[MV 0 0 none 0 0, .int .i64 3]) (by simp [results, Try.results10, go_sem, r0, r1, r2, MV]) rfl ⟨rfl, StoM.below HB2.out (by omega)⟩
set_option maxRecDepth 4000 in
set_option maxHeartbeats 1000000 in
theorem Stack_range (r c r2 n n2 : Nat) (sa sb : Option Addr) (ka kb : Nat) (f f2 : Nat → Nat) (w : World) (ha : Gd w r c sa n ka f) (hb : Gd w r2 c sb n2 kb f2) (hs : 12 < r + r2) :
    Calls Try.prog 10 #[MV r c sa n ka, MV r2 c sb n2 kb] w fun e w' => e = .returned (NonM 1) ∧ Below w.heap.size w w' := by
  obtain ⟨t1, t2, t3, t4, t5⟩ := three_b w (MBox r c sa n ka) (MBox r2 c sb n2 kb) (MBox 0 0 none 0 0)
  have HCB := hid (fun W (hW : Below w.heap.size w W) => checkBoth_any r c r2 c n n2 sa sb ka kb _ _ W ((ha.below hW).2.2.2.1.fl) ((hb.below hW).2.2.2.1.fl) (by have := ha.le; omega) (by have := hb.le; omega))
  rw [ha.chk, hb.chk, show first2 0 0 = 0 by rfl] at HCB
  have hne : ((c : Int) != (c : Int)) = false := by simp
  have l2 := ha.1
  have l3 := hb.1
  obtain ⟨cs, hcs⟩ : ∃ t : Int, Hid ((r : Int) + (r2 : Int) = t) := ⟨_, rfl⟩
  have cs' := hcs.out
  have m1 : -9223372036854775808 ≤ cs := by omega
  have m2 : cs ≤ 9223372036854775807 := by omega
  have HIS := hid (fun W => isSide_any cs W)
  rw [show sideB cs = false from by unfold sideB; simp; omega] at HIS
  obtain ⟨V, hV⟩ : ∃ V, Hid (((w.alloc (MBox r c sa n ka)).alloc (MBox r2 c sb n2 kb)).alloc (MBox 0 0 none 0 0) = V) := ⟨_, rfl⟩
  rw [hV.out] at t1 t2 t3 t4 t5
  have hV' := hV.out
  have HB := hid t4
  have HR := hid t3
  have HA0 := hid t1
  have HA1 := hid t2
  obtain ⟨x0, x1, x2⟩ := mcells_of t1
  obtain ⟨v0, v1, v2⟩ := mcells_of t2
  unfold MBox at hV'
  unfold NonM
  unfold MV at HCB ⊢
  clear t1 t2 t3 t4 t5 ha hb hs l2 l3
  go_enter Try.func10, Try.ntmps10
  go_wp2_with fail
  refine (HCB.out _ HB.out).mono ?_
  rintro e w1 ⟨rfl, hb1⟩
  have HB1 := hid (HB.out.trans (hb1.mono HB.out.size))
  have HR1 := hid (blkM HR.out hb1)
  obtain ⟨x0, x1, x2⟩ := mcells_of (blkM HA0.out hb1)
  obtain ⟨v0, v1, v2⟩ := mcells_of (blkM HA1.out hb1)
  clear hb1
  go_wp2_with fail
  refine (HIS.out _).mono ?_
  rintro e ww ⟨rfl, hw⟩
  rw [hw]
  clear hw
  go_wp2_with fail
  refine (refused_any 1 _).mono ?_
  rintro e w2 ⟨rfl, hb2⟩
  have HB2 := hid (HB1.out.trans (hb2.mono HB1.out.size))
  have HR2 := hid (blkM HR1.out hb2)
  obtain ⟨r0, r1, r2⟩ := mcells_of HR2.out
  have fz := frzM HR2.out
  unfold MV
  clear hb2
  go_wp2_with fail
  exact bodyPost_ret (v := .tuple #[MV 0 0 none 0 0, .int .i64 1]) (by simp [results, Try.results10, go_sem, r0, r1, r2, MV]) rfl ⟨rfl, StoM.below HB2.out (by omega)⟩
/-- A copy as one step of a region that draws. -/
theorem step_cpy {ops : Array Oper} {o : Oper} {a : Act} {w w' : World} {K : Act → World → Prop} {Q : Exit → Act → World → Prop} {E : Prop} {r : Value} (T : TypeId)
    (hg : o.guard = none) (s x : Operand) (hop : o.op = Op.call { callee := Callee.builtin Builtin.copy, args := #[s, x], argTypes := #[T, T] })
    (u v : Value) (hs : a.eval s = u) (hx : a.eval x = v) (hrun : (Builtin.copy_ #[T, T] o.type #[u, v]).run Try.prog w = .ok r w') (hK : K (a.put o.dst r) w') :
    if Region.wanted o (yielded ops a.tmps) = true then Oper.wp Try.prog o a w K Q else E := by
  have hw : Region.wanted o (yielded ops a.tmps) = true := by simp [Region.wanted, hg]
  rw [if_pos hw]
  unfold Oper.wp
  simp [execOp, hop, resolve, invoke, builtin, hs, hx, hrun, Result.andThen]
  exact hK
/-- A list of numbers copied into a row, from a place on. -/
theorem copy_fn {W : World} {g Q P R CP n kb : Nat} {sb : Option Addr} {f o : Nat → Nat} (ty : TypeId) (hr : W.rowIs g 42 Q (fun k => .float .f64 (o k))) (hl : FnM W sb n kb f) (hP : P + n ≤ Q) (hR : n ≤ R) :
    ∃ w', (Builtin.copy_ #[27, 27] ty #[.slice (some ⟨g, P, none⟩) R CP, .slice sb n kb]).run Try.prog W = .ok (.int .i64 n) w' ∧ w'.rowIs g 42 Q (fun t => .float .f64 (if P ≤ t ∧ t < P + n then f (t - P) else o t)) ∧ (∀ k, k ≠ g → w'.heap[k]? = W.heap[k]?) ∧ ∀ m w0, Below m w0 W → m ≤ g → Below m w0 w' := by
  rcases hl with ⟨rfl, rfl, rfl⟩ | ⟨b, off, rfl, hb, _, _, hc⟩
  · refine ⟨W, run_copy_nil (P := Try.prog) W 27 27 ty 42 ⟨g, P, none⟩ R CP Try.underlying27 (by kernel_rfl), hr.congr (fun t _ => ?_), fun _ _ => rfl, fun _ _ h _ => h⟩
    rw [if_neg (by omega)]
  obtain ⟨cur, h1, h2, h3⟩ := hr
  obtain ⟨cs, hcs⟩ : ∃ cs, (List.range n).map (fun j => Value.float .f64 (f j)) = cs := ⟨_, rfl⟩
  have hlen : cs.length = n := by rw [← hcs, List.length_map, List.length_range]
  have hget : ∀ j, j < n → cs[j]? = some (.float .f64 (f j)) := fun j hj => by
    rw [← hcs, List.getElem?_map, List.getElem?_range hj]
    rfl
  have hrun := run_copy_row (P := Try.prog) W 27 27 ty 42 g P R CP ⟨b, off, none⟩ n kb cur 42 cs Try.underlying27 (by kernel_rfl) h1 (by rw [hlen]; exact (Nat.min_eq_left hR).symm) (fun j v hj => by
    have hjz : j < n := by
      have := (List.getElem?_eq_some_iff.1 hj).1
      omega
    rw [Go.WideShapes.add_plain, (hc j hjz).1, ← hget j hjz, hj]) (by rw [hlen, h2]; exact hP) (fun v hv => by
    rw [← hcs] at hv
    obtain ⟨j, _, rfl⟩ := List.mem_map.1 hv
    rfl)
  refine ⟨_, hrun.trans (by rw [hlen]; rfl), ⟨_, setRow_heap _ _ _ _ _ _ h1, ?_, ?_⟩, fun k hk => setRow_other _ _ _ _ hk, fun m w0 hb hm => below_setRow hb hm _⟩
  · simp only [List.size_toArray, List.length_append, List.length_take, List.length_drop, hlen, Array.length_toList, h2]
    omega
  · intro t ht
    rw [List.getElem?_toArray]
    show _ = some (Value.float .f64 (if P ≤ t ∧ t < P + n then f (t - P) else o t))
    have hc : ∀ i, i < Q → cur.toList[i]? = some (.float .f64 (o i)) := fun i hi => by rw [Array.getElem?_toList]; exact h3 i hi
    have l1 : (cur.toList.take P).length = P := by rw [List.length_take, Array.length_toList, h2]; omega
    by_cases c1 : t < P
    · rw [if_neg (by omega), List.append_assoc, List.getElem?_append_left (by omega), List.getElem?_take_of_lt c1]
      exact hc t ht
    · by_cases c2 : t < P + n
      · rw [if_pos ⟨by omega, c2⟩, List.append_assoc, List.getElem?_append_right (by omega), l1, List.getElem?_append_left (by omega)]
        exact hget (t - P) (by omega)
      · rw [if_neg (by omega), List.append_assoc, List.getElem?_append_right (by omega), l1, List.getElem?_append_right (by omega), hlen, List.getElem?_drop, show P + n + (t - P - n) = t by omega]
        exact hc t ht
theorem Fr5.but {w W W' : World} {p0 p1 rb mb g : Nat} {A B R M : Obj} (h : Fr5 w W p0 p1 rb mb A B R M) (h0 : p0 ≠ g ∧ p1 ≠ g ∧ rb ≠ g ∧ mb ≠ g ∧ w.heap.size ≤ g) (hB : Below w.heap.size w W') (ho : ∀ k, k ≠ g → W'.heap[k]? = W.heap[k]?) : Fr5 w W' p0 p1 rb mb A B R M :=
  ⟨hB, (ho _ h0.1).trans h.2.1, (ho _ h0.2.1).trans h.2.2.1, (ho _ h0.2.2.1).trans h.2.2.2.1, (ho _ h0.2.2.2.1).trans h.2.2.2.2⟩
theorem stk_lt {r r2 c k : Nat} {f f2 : Nat → Nat} (h1 : ∀ k, k < r * c → f k < 18446744073709551616) (h2 : ∀ k, k < r2 * c → f2 k < 18446744073709551616) (hk : k < r * c + r2 * c) (P : Nat) (hP : P = r * c) :
    (if P ≤ k ∧ k < P + r2 * c then f2 (k - P) else if 0 ≤ k ∧ k < 0 + r * c then f (k - 0) else 0) < 18446744073709551616 := by
  subst hP
  by_cases h : r * c ≤ k
  · rw [if_pos ⟨h, hk⟩]; exact h2 _ (by omega)
  · rw [if_neg (fun q => h q.1), if_pos ⟨Nat.zero_le _, by omega⟩]; exact h1 _ (by omega)
theorem stk_val {r r2 c u v : Nat} {f f2 : Nat → Nat} (hu : u < r + r2) (hv : v < c) :
    (if r * c ≤ u * c + v ∧ u * c + v < r * c + r2 * c then f2 (u * c + v - r * c) else if 0 ≤ u * c + v ∧ u * c + v < 0 + r * c then f (u * c + v - 0) else 0) = if u < r then f (u * c + v) else f2 ((u - r) * c + v) := by
  by_cases h : u < r
  · have h1 := place_lt h hv
    rw [if_neg (by omega), if_pos ⟨Nat.zero_le _, by omega⟩, if_pos h]; rfl
  · have h1 : (u - r) * c + v < r2 * c := place_lt (by omega) hv
    have h2 : u * c = r * c + (u - r) * c := by rw [← Nat.add_mul]; congr 1; omega
    rw [if_pos ⟨by omega, by omega⟩, if_neg h]
    congr 1
    omega
theorem stk_lt0 {r r2 c n n2 k : Nat} {f : Nat → Nat} {x : Nat → Nat} (hn : n = r * c ∧ n2 = r2 * c) (h0 : n2 = 0) (h1 : ∀ k, k < r * c → f k < 18446744073709551616) (hk : k < n) : (if 0 ≤ k ∧ k < 0 + n2 then x (k - 0) else if 0 ≤ k ∧ k < 0 + n then f (k - 0) else 0) < 18446744073709551616 := by
  rw [if_neg (by omega), if_pos ⟨Nat.zero_le _, by omega⟩]
  exact h1 _ (by omega)
theorem stk_val0 {r r2 R c n n2 u v : Nat} {f f2 : Nat → Nat} (hn : n = r * c ∧ n2 = r2 * c) (h0 : n2 = 0) (hRR : r + r2 = R) (hu : u < R) (hv : v < c) : (if 0 ≤ u * c + v ∧ u * c + v < 0 + n2 then f2 (u * c + v - 0) else if 0 ≤ u * c + v ∧ u * c + v < 0 + n then f (u * c + v - 0) else 0) = if u < r then f (u * c + v) else f2 ((u - r) * c + v) := by
  have h1 : r2 = 0 := by
    rcases Nat.mul_eq_zero.1 (hn.2.symm.trans h0) with h | h
    · exact h
    · omega
  have h2 : u < r := by omega
  have h3 := place_lt h2 hv
  rw [if_neg (by omega), if_pos ⟨Nat.zero_le _, by omega⟩, if_pos h2]; rfl
theorem stk_ltn {r r2 c n n2 N k : Nat} {f f2 : Nat → Nat} (hn : n = r * c ∧ n2 = r2 * c) (hR : r * c + r2 * c = N) (h1 : ∀ k, k < r * c → f k < 18446744073709551616) (h2 : ∀ k, k < r2 * c → f2 k < 18446744073709551616) (hk : k < N) : (if n ≤ k ∧ k < n + n2 then f2 (k - n) else if 0 ≤ k ∧ k < 0 + n then f (k - 0) else 0) < 18446744073709551616 := by
  obtain ⟨e1, e2⟩ := hn
  subst e1 e2
  exact stk_lt h1 h2 (by omega) _ rfl
theorem stk_valn {r r2 R c n n2 u v : Nat} {f f2 : Nat → Nat} (hn : n = r * c ∧ n2 = r2 * c) (hRR : r + r2 = R) (hu : u < R) (hv : v < c) : (if n ≤ u * c + v ∧ u * c + v < n + n2 then f2 (u * c + v - n) else if 0 ≤ u * c + v ∧ u * c + v < 0 + n then f (u * c + v - 0) else 0) = if u < r then f (u * c + v) else f2 ((u - r) * c + v) := by
  obtain ⟨e1, e2⟩ := hn
  subst e1 e2
  exact stk_val (by omega) hv
set_option maxRecDepth 4000 in
set_option maxHeartbeats 2000000 in
theorem Stack_ok (r c r2 n n2 : Nat) (sa sb : Option Addr) (ka kb : Nat) (f f2 : Nat → Nat) (w : World) (ha : Gd w r c sa n ka f) (hb : Gd w r2 c sb n2 kb f2) (hs : r + r2 ≤ 12) :
    Calls Try.prog 10 #[MV r c sa n ka, MV r2 c sb n2 kb] w fun e w' => (∃ (g : Nat) (o : Nat → Nat), e = .returned (.tuple #[.agg #[.int .i64 ((r + r2 : Nat) : Int), .int .i64 c, .slice (some ⟨g, 0, none⟩) ((r + r2) * c) ((r + r2) * c)], .int .i64 0]) ∧ FnM w' (some ⟨g, 0, none⟩) ((r + r2) * c) ((r + r2) * c) o ∧ ∀ u v, u < r + r2 → v < c → o (u * c + v) = if u < r then f (u * c + v) else f2 ((u - r) * c + v)) ∧ Below w.heap.size w w' := by
  obtain ⟨t1, t2, t3, t4, t5⟩ := three_b w (MBox r c sa n ka) (MBox r2 c sb n2 kb) (MBox 0 0 none 0 0)
  have HCB := hid (fun W (hW : Below w.heap.size w W) => checkBoth_any r c r2 c n n2 sa sb ka kb _ _ W ((ha.below hW).2.2.2.1.fl) ((hb.below hW).2.2.2.1.fl) (by have := ha.le; omega) (by have := hb.le; omega))
  rw [ha.chk, hb.chk, show first2 0 0 = 0 by rfl] at HCB
  have l1 := ha.2.1
  have hne : ((c : Int) != (c : Int)) = false := by simp
  have HAA := hid ha.2.2.2.1
  have HBB := hid hb.2.2.2.1
  have HNN := hid (And.intro ha.2.2.1 hb.2.2.1)
  have HGA : Hid (∀ k, k < r * c → f k < 18446744073709551616) := fun k hk => (gd_fin ha k hk).1
  have HGB : Hid (∀ k, k < r2 * c → f2 k < 18446744073709551616) := fun k hk => (gd_fin hb k hk).1
  obtain ⟨R, hR⟩ : ∃ t, Hid (r + r2 = t) := ⟨_, rfl⟩
  have k12 : R ≤ 12 := by have := hR.out; omega
  have hRI : (r : Int) + (r2 : Int) = (R : Int) := by have := hR.out; omega
  have hRw : IntKind.i64.wrap ((r : Int) + (r2 : Int)) = (R : Int) := by rw [hRI]; exact IntWalk.i64_in _ (by omega)
  have hRv : IntKind.i64.wrap (R : Int) = (R : Int) := IntWalk.i64_in _ (by omega)
  have HIS := hid (fun W => isSide_any (R : Int) W)
  rw [show sideB (R : Int) = true from by unfold sideB; simp; omega] at HIS
  have HZ0 := hid (fun W => zeros_any R c (by omega) (by omega) W)
  have HN144 : Hid (R * c ≤ 144) := Nat.mul_le_mul k12 l1
  have HRC : Hid (r * c + r2 * c = R * c) := by show _ = _; rw [← hR.out, Nat.add_mul]
  rw [hR.out]
  obtain ⟨N, hN⟩ : ∃ p, Hid (R * c = p) := ⟨_, rfl⟩
  rw [hN.out] at HZ0 HN144 HRC
  rw [hN.out]
  obtain ⟨V, hV⟩ : ∃ V, Hid (((w.alloc (MBox r c sa n ka)).alloc (MBox r2 c sb n2 kb)).alloc (MBox 0 0 none 0 0) = V) := ⟨_, rfl⟩
  rw [hV.out] at t1 t2 t3 t4 t5
  have hV' := hV.out
  obtain ⟨p0, hp0⟩ : ∃ t, Hid (w.heap.size = t) := ⟨_, rfl⟩
  obtain ⟨p1, hp1⟩ : ∃ t, Hid (p0 + 1 = t) := ⟨_, rfl⟩
  obtain ⟨rb, hrb⟩ : ∃ t, Hid (p1 + 1 = t) := ⟨_, rfl⟩
  rw [hp0.out] at t1 t2 t3
  rw [hp1.out] at t2 t3
  rw [hrb.out] at t3
  have HB := hid t4
  have HR := hid t3
  have HA0 := hid t1
  have HA1 := hid t2
  have HSZ := hid t5
  have hp0' := hp0.out
  have hp1' := hp1.out
  have hrb' := hrb.out
  obtain ⟨x0, x1, x2⟩ := mcells_of t1
  obtain ⟨v0, v1, v2⟩ := mcells_of t2
  unfold MBox at hV'
  unfold MV at HCB HZ0 ⊢
  clear t1 t2 t3 t4 t5 ha hb l1 hs k12
  go_enter Try.func10, Try.ntmps10
  go_wp2_with fail
  refine (HCB.out _ HB.out).mono ?_
  rintro e w1 ⟨rfl, hb1⟩
  have HB1 := hid (HB.out.trans (hb1.mono HB.out.size))
  have HR1 := hid (blkM HR.out hb1)
  have HX0 := hid (blkM HA0.out hb1)
  have HX1 := hid (blkM HA1.out hb1)
  obtain ⟨x0, x1, x2⟩ := mcells_of HX0.out
  obtain ⟨v0, v1, v2⟩ := mcells_of HX1.out
  have HSW : Hid (V.heap.size ≤ w1.heap.size) := hb1.size
  clear hb1
  go_wp2_with fail
  refine (HIS.out _).mono ?_
  rintro e ww ⟨rfl, hw⟩
  rw [hw]
  clear hw
  go_wp2_with fail
  refine (HZ0.out _).mono ?_
  rintro e w3 ⟨rfl, h1, h2⟩
  obtain ⟨g, hg⟩ : ∃ t, Hid (w1.heap.size + 1 = t) := ⟨_, rfl⟩
  rw [hg.out] at h1
  rw [hg.out]
  have hal : Below w3.heap.size w3 (w3.alloc (MBox R c (some ⟨g, 0, none⟩) N N)) := (Below.refl _ _).alloc (Nat.le_refl _) _
  have hlt : g < w3.heap.size := h1.lt
  obtain ⟨mb, hmb⟩ : ∃ t, Hid (w3.heap.size = t) := ⟨_, rfl⟩
  have HFR : Hid (Fr5 w (w3.alloc (MBox R c (some ⟨g, 0, none⟩) N N)) p0 p1 rb mb (MBox r c sa n ka) (MBox r2 c sb n2 kb) (MBox 0 0 none 0 0) (MBox R c (some ⟨g, 0, none⟩) N N)) := by
    refine ⟨(HB1.out.trans (h2.mono HB1.out.size)).trans (hal.mono (Nat.le_trans HB1.out.size h2.size)), blkM (blkM HX0.out h2) hal, blkM (blkM HX1.out h2) hal, blkM (blkM HR1.out h2) hal, ?_⟩
    rw [← hmb.out]
    exact nblkM _ _
  have HR0 : Hid ((w3.alloc (MBox R c (some ⟨g, 0, none⟩) N N)).rowIs g 42 N (fun _ => .float .f64 0)) := h1.of_block (hal.block _ hlt)
  have HNE : Hid (p0 ≠ g ∧ p1 ≠ g ∧ rb ≠ g ∧ mb ≠ g ∧ w.heap.size ≤ g) := by
    have e1 := hp0.out; have e2 := hp1.out; have e3 := hrb.out; have e4 := hmb.out; have e5 := hg.out; have e6 := HSZ.out; have e7 := HSW.out
    show _ ∧ _ ∧ _ ∧ _ ∧ _
    omega
  have HRB : Hid (w.heap.size ≤ rb) := by
    have e1 := hp0.out; have e2 := hp1.out; have e3 := hrb.out
    show _ ≤ _
    omega
  obtain ⟨V1, hV1⟩ : ∃ V, Hid (w3.alloc (MBox R c (some ⟨g, 0, none⟩) N N) = V) := ⟨_, rfl⟩
  rw [hV1.out] at HFR HR0
  have hW1 := hV1.out
  have hmb' := hmb.out
  unfold MBox at hW1
  have HKS : Hid (∀ W, Hid (Fr5 w W p0 p1 rb mb (MBox r c sa n ka) (MBox r2 c sb n2 kb) (MBox 0 0 none 0 0) (MBox R c (some ⟨g, 0, none⟩) N N)) → (W.cell? ⟨mb, 2, none⟩ = some (.slice (some ⟨g, 0, none⟩) N N) ∧ W.cell? ⟨p0, 2, none⟩ = some (.slice sa n ka) ∧ W.cell? ⟨p1, 2, none⟩ = some (.slice sb n2 kb)) ∧ Hid (Fr5 w W p0 p1 rb mb (MBox r c sa n ka) (MBox r2 c sb n2 kb) (MBox 0 0 none 0 0) (MBox R c (some ⟨g, 0, none⟩) N N))) := fun W hW => by
    obtain ⟨a0, a1, a2⟩ := mcells_of hW.out.2.1
    obtain ⟨b0, b1, b2⟩ := mcells_of hW.out.2.2.1
    obtain ⟨n0, n1, n2⟩ := mcells_of hW.out.2.2.2.2
    exact ⟨⟨n2, a2, b2⟩, hW⟩
  have HQ0 : Hid (Fr5 w V1.drew p0 p1 rb mb (MBox r c sa n ka) (MBox r2 c sb n2 kb) (MBox 0 0 none 0 0) (MBox R c (some ⟨g, 0, none⟩) N N)) := HFR.out.drew
  have HRD : Hid (V1.drew.rowIs g 42 N (fun _ => .float .f64 0)) := HR0.out.of_block rfl
  obtain ⟨w5, hrun1, hrow1, hoth1, hbel1⟩ := copy_fn 3 (P := 0) (R := N) (CP := N) HRD.out (HAA.out.below HQ0.out.1) (by have := HNN.out.1; have := HRC.out; omega) (by have := HNN.out.1; have := HRC.out; omega)
  have HF1 : Hid (Fr5 w w5 p0 p1 rb mb (MBox r c sa n ka) (MBox r2 c sb n2 kb) (MBox 0 0 none 0 0) (MBox R c (some ⟨g, 0, none⟩) N N)) := HQ0.out.but HNE.out (hbel1 _ _ HQ0.out.1 HNE.out.2.2.2.2) hoth1
  have HRW1 := hid hrow1
  have hnN0 : (0 : Int) ≤ (n : Int) := by omega
  have hnN1 : (n : Int) ≤ (N : Int) := by have := HNN.out.1; have := HRC.out; omega
  have hnN2 : n ≤ N := by omega
  clear h1 h2 hal hlt x0 x1 x2 v0 v1 v2 hoth1 hbel1 hrow1
  by_cases hnN : N = n
  · have HN2 : Hid (n2 = 0) := by show n2 = 0; have := HNN.out; have := HRC.out; omega
    subst hnN
    obtain ⟨w6, hrun2, hrow2, hoth2, hbel2⟩ := copy_fn 3 (P := 0) (R := 0) (CP := 0) HRW1.out (HBB.out.below HF1.out.1) (by have := HNN.out; have := HRC.out; omega) (by have := HNN.out; have := HRC.out; omega)
    have HF2 : Hid (Fr5 w w6 p0 p1 rb mb (MBox r c sa N ka) (MBox r2 c sb n2 kb) (MBox 0 0 none 0 0) (MBox R c (some ⟨g, 0, none⟩) N N)) := HF1.out.but HNE.out (hbel2 _ _ HF1.out.1 HNE.out.2.2.2.2) hoth2
    have HFN := hid (rowF hrow2 (fun k hk => stk_lt0 HNN.out HN2.out HGA.out hk) HN144.out)
    have HPV : Hid (∀ u v, u < R → v < c → (fun t => if 0 ≤ t ∧ t < 0 + n2 then f2 (t - 0) else if 0 ≤ t ∧ t < 0 + N then f (t - 0) else 0) (u * c + v) = if u < r then f (u * c + v) else f2 ((u - r) * c + v)) := fun u v hu hv => stk_val0 HNN.out HN2.out hR.out hu hv
    obtain ⟨m0, m1, m2⟩ := mcells_of HF2.out.2.2.2.2
    obtain ⟨b0, b1, b2⟩ := mcells_of HF2.out.2.2.2.1
    have fz := frzM HF2.out.2.2.2.1
    clear hoth2 hbel2 hrow2
    go_wp2_with fail
    refine wp_region_held_drew (S := fun W => (W.cell? ⟨mb, 2, none⟩ = some (.slice (some ⟨g, 0, none⟩) N N) ∧ W.cell? ⟨p0, 2, none⟩ = some (.slice sa N ka) ∧ W.cell? ⟨p1, 2, none⟩ = some (.slice sb n2 kb)) ∧ Hid (Fr5 w W p0 p1 rb mb (MBox r c sa N ka) (MBox r2 c sb n2 kb) (MBox 0 0 none 0 0) (MBox R c (some ⟨g, 0, none⟩) N N))) (by kernel_rfl) (HKS.out _ HQ0) (fun hHeld => ?_)
    refine take_at 0 43 (.pointer (some ⟨mb, 2, none⟩)) rfl rfl (by kernel_rfl) (by kernel_rfl) (by kernel_rfl) (fun _ _ _ h => h) (Or.inl ⟨by rfl, fun w hSw => by (try dsimp only at hSw); go_simp⟩) (by assumption) ?_
    simp only [Act.put, List.setIfInBounds_toArray, List.set_cons_zero, List.set_cons_succ]
    refine take_at 1 44 (.slice (some ⟨g, 0, none⟩) N N) rfl rfl (by kernel_rfl) (by kernel_rfl) (by kernel_rfl) (fun _ _ _ h => h) (Or.inl ⟨by rfl, fun w hSw => by (try dsimp only at hSw); go_simp⟩) (by assumption) ?_
    simp only [Act.put, List.setIfInBounds_toArray, List.set_cons_zero, List.set_cons_succ]
    refine take_at 2 45 (.pointer (some ⟨mb, 2, none⟩)) rfl rfl (by kernel_rfl) (by kernel_rfl) (by kernel_rfl) (fun _ _ _ h => h) (Or.inl ⟨by rfl, fun w hSw => by (try dsimp only at hSw); go_simp⟩) (by assumption) ?_
    simp only [Act.put, List.setIfInBounds_toArray, List.set_cons_zero, List.set_cons_succ]
    refine take_at 3 46 (.slice (some ⟨g, 0, none⟩) N N) rfl rfl (by kernel_rfl) (by kernel_rfl) (by kernel_rfl) (fun _ _ _ h => h) (Or.inl ⟨by rfl, fun w hSw => by (try dsimp only at hSw); go_simp⟩) (by assumption) ?_
    simp only [Act.put, List.setIfInBounds_toArray, List.set_cons_zero, List.set_cons_succ]
    refine take_at 4 47 (.pointer (some ⟨p0, 2, none⟩)) rfl rfl (by kernel_rfl) (by kernel_rfl) (by kernel_rfl) (fun _ _ _ h => h) (Or.inl ⟨by rfl, fun w hSw => by (try dsimp only at hSw); go_simp⟩) (by assumption) ?_
    simp only [Act.put, List.setIfInBounds_toArray, List.set_cons_zero, List.set_cons_succ]
    refine take_at 5 48 (.slice sa N ka) rfl rfl (by kernel_rfl) (by kernel_rfl) (by kernel_rfl) (fun _ _ _ h => h) (Or.inl ⟨by rfl, fun w hSw => by (try dsimp only at hSw); go_simp⟩) (by assumption) ?_
    simp only [Act.put, List.setIfInBounds_toArray, List.set_cons_zero, List.set_cons_succ]
    refine take_at 8 51 (.pointer (some ⟨p1, 2, none⟩)) rfl rfl (by kernel_rfl) (by kernel_rfl) (by kernel_rfl) (fun _ _ _ h => h) (Or.inl ⟨by rfl, fun w hSw => by (try dsimp only at hSw); go_simp⟩) (by assumption) ?_
    simp only [Act.put, List.setIfInBounds_toArray, List.set_cons_zero, List.set_cons_succ]
    refine take_at 9 52 (.slice sb n2 kb) rfl rfl (by kernel_rfl) (by kernel_rfl) (by kernel_rfl) (fun _ _ _ h => h) (Or.inl ⟨by rfl, fun w hSw => by (try dsimp only at hSw); go_simp⟩) (by assumption) ?_
    simp only [Act.put, List.setIfInBounds_toArray, List.set_cons_zero, List.set_cons_succ]
    refine wpAnyH_ready (rs := [6]) (by kernel_rfl) (by simp) ?_
    refine AllReadyH.cons (o := _) rfl (fun K hK => ?_) AllReadyH.nil
    refine step_cpy 27 rfl _ _ rfl (.slice (some ⟨g, 0, none⟩) N N) (.slice sa N ka) (by first | rfl | (simp [Act.eval]; done) | (simp [Act.eval, Act.put]; done)) (by first | rfl | (simp [Act.eval]; done) | (simp [Act.eval, Act.put]; done)) hrun1 ?_
    refine hK.out _ _ (HKS.out _ HF1) (fun hHeld1 => ?_)
    clear hK K
    simp only [Act.put, List.setIfInBounds_toArray]
    refine take_at 7 50 (.slice (some ⟨g, 0, none⟩) 0 0) rfl rfl (by kernel_rfl) (by kernel_rfl) (by kernel_rfl) (fun _ _ _ h => h) (Or.inl ⟨by rfl, fun w hSw => by (try dsimp only at hSw); go_simp⟩) (by assumption) ?_
    simp only [Act.put]
    refine wpAnyH_ready (rs := [10]) (by kernel_rfl) (by simp) ?_
    refine AllReadyH.cons (o := _) rfl (fun K hK => ?_) AllReadyH.nil
    refine step_cpy 27 rfl _ _ rfl (.slice (some ⟨g, 0, none⟩) 0 0) (.slice sb n2 kb) (by first | rfl | (simp [Act.eval]; done) | (simp [Act.eval, Act.put]; done)) (by first | rfl | (simp [Act.eval]; done) | (simp [Act.eval, Act.put]; done)) hrun2 ?_
    refine hK.out _ _ (HKS.out _ HF2) (fun hHeld2 => ?_)
    clear hK K
    simp only [Act.put]
    refine wpAnyH_done (by kernel_rfl) ?_ _
    clear hrun1 hrun2
    go_wp2_with fail
    exact bodyPost_ret (v := .tuple #[.agg #[.int .i64 R, .int .i64 c, .slice (some ⟨g, 0, none⟩) N N], .int .i64 0]) (by simp [results, Try.results10, go_sem, b0, b1, b2]) rfl ⟨⟨g, _, rfl, StoM.fn HFN.out HF2.out.2.2.2.1, HPV.out⟩, StoM.below HF2.out.1 HRB.out⟩
  · have hnN3 : ¬ N = n := hnN
    obtain ⟨w6, hrun2, hrow2, hoth2, hbel2⟩ := copy_fn 3 (P := n) (R := (N - n)) (CP := (N - n)) HRW1.out (HBB.out.below HF1.out.1) (by have := HNN.out; have := HRC.out; omega) (by have := HNN.out; have := HRC.out; omega)
    have HF2 : Hid (Fr5 w w6 p0 p1 rb mb (MBox r c sa n ka) (MBox r2 c sb n2 kb) (MBox 0 0 none 0 0) (MBox R c (some ⟨g, 0, none⟩) N N)) := HF1.out.but HNE.out (hbel2 _ _ HF1.out.1 HNE.out.2.2.2.2) hoth2
    have HFN := hid (rowF hrow2 (fun k hk => stk_ltn HNN.out HRC.out HGA.out HGB.out hk) HN144.out)
    have HPV : Hid (∀ u v, u < R → v < c → (fun t => if n ≤ t ∧ t < n + n2 then f2 (t - n) else if 0 ≤ t ∧ t < 0 + n then f (t - 0) else 0) (u * c + v) = if u < r then f (u * c + v) else f2 ((u - r) * c + v)) := fun u v hu hv => stk_valn HNN.out hR.out hu hv
    obtain ⟨m0, m1, m2⟩ := mcells_of HF2.out.2.2.2.2
    obtain ⟨b0, b1, b2⟩ := mcells_of HF2.out.2.2.2.1
    have fz := frzM HF2.out.2.2.2.1
    clear hoth2 hbel2 hrow2
    go_wp2_with fail
    refine wp_region_held_drew (S := fun W => (W.cell? ⟨mb, 2, none⟩ = some (.slice (some ⟨g, 0, none⟩) N N) ∧ W.cell? ⟨p0, 2, none⟩ = some (.slice sa n ka) ∧ W.cell? ⟨p1, 2, none⟩ = some (.slice sb n2 kb)) ∧ Hid (Fr5 w W p0 p1 rb mb (MBox r c sa n ka) (MBox r2 c sb n2 kb) (MBox 0 0 none 0 0) (MBox R c (some ⟨g, 0, none⟩) N N))) (by kernel_rfl) (HKS.out _ HQ0) (fun hHeld => ?_)
    refine take_at 0 43 (.pointer (some ⟨mb, 2, none⟩)) rfl rfl (by kernel_rfl) (by kernel_rfl) (by kernel_rfl) (fun _ _ _ h => h) (Or.inl ⟨by rfl, fun w hSw => by (try dsimp only at hSw); go_simp⟩) (by assumption) ?_
    simp only [Act.put, List.setIfInBounds_toArray, List.set_cons_zero, List.set_cons_succ]
    refine take_at 1 44 (.slice (some ⟨g, 0, none⟩) N N) rfl rfl (by kernel_rfl) (by kernel_rfl) (by kernel_rfl) (fun _ _ _ h => h) (Or.inl ⟨by rfl, fun w hSw => by (try dsimp only at hSw); go_simp⟩) (by assumption) ?_
    simp only [Act.put, List.setIfInBounds_toArray, List.set_cons_zero, List.set_cons_succ]
    refine take_at 2 45 (.pointer (some ⟨mb, 2, none⟩)) rfl rfl (by kernel_rfl) (by kernel_rfl) (by kernel_rfl) (fun _ _ _ h => h) (Or.inl ⟨by rfl, fun w hSw => by (try dsimp only at hSw); go_simp⟩) (by assumption) ?_
    simp only [Act.put, List.setIfInBounds_toArray, List.set_cons_zero, List.set_cons_succ]
    refine take_at 3 46 (.slice (some ⟨g, 0, none⟩) N N) rfl rfl (by kernel_rfl) (by kernel_rfl) (by kernel_rfl) (fun _ _ _ h => h) (Or.inl ⟨by rfl, fun w hSw => by (try dsimp only at hSw); go_simp⟩) (by assumption) ?_
    simp only [Act.put, List.setIfInBounds_toArray, List.set_cons_zero, List.set_cons_succ]
    refine take_at 4 47 (.pointer (some ⟨p0, 2, none⟩)) rfl rfl (by kernel_rfl) (by kernel_rfl) (by kernel_rfl) (fun _ _ _ h => h) (Or.inl ⟨by rfl, fun w hSw => by (try dsimp only at hSw); go_simp⟩) (by assumption) ?_
    simp only [Act.put, List.setIfInBounds_toArray, List.set_cons_zero, List.set_cons_succ]
    refine take_at 5 48 (.slice sa n ka) rfl rfl (by kernel_rfl) (by kernel_rfl) (by kernel_rfl) (fun _ _ _ h => h) (Or.inl ⟨by rfl, fun w hSw => by (try dsimp only at hSw); go_simp⟩) (by assumption) ?_
    simp only [Act.put, List.setIfInBounds_toArray, List.set_cons_zero, List.set_cons_succ]
    refine take_at 8 51 (.pointer (some ⟨p1, 2, none⟩)) rfl rfl (by kernel_rfl) (by kernel_rfl) (by kernel_rfl) (fun _ _ _ h => h) (Or.inl ⟨by rfl, fun w hSw => by (try dsimp only at hSw); go_simp⟩) (by assumption) ?_
    simp only [Act.put, List.setIfInBounds_toArray, List.set_cons_zero, List.set_cons_succ]
    refine take_at 9 52 (.slice sb n2 kb) rfl rfl (by kernel_rfl) (by kernel_rfl) (by kernel_rfl) (fun _ _ _ h => h) (Or.inl ⟨by rfl, fun w hSw => by (try dsimp only at hSw); go_simp⟩) (by assumption) ?_
    simp only [Act.put, List.setIfInBounds_toArray, List.set_cons_zero, List.set_cons_succ]
    refine wpAnyH_ready (rs := [6]) (by kernel_rfl) (by simp) ?_
    refine AllReadyH.cons (o := _) rfl (fun K hK => ?_) AllReadyH.nil
    refine step_cpy 27 rfl _ _ rfl (.slice (some ⟨g, 0, none⟩) N N) (.slice sa n ka) (by first | rfl | (simp [Act.eval]; done) | (simp [Act.eval, Act.put]; done)) (by first | rfl | (simp [Act.eval]; done) | (simp [Act.eval, Act.put]; done)) hrun1 ?_
    refine hK.out _ _ (HKS.out _ HF1) (fun hHeld1 => ?_)
    clear hK K
    simp only [Act.put, List.setIfInBounds_toArray]
    refine take_at 7 50 (.slice (some ⟨g, n, none⟩) (N - n) (N - n)) rfl rfl (by kernel_rfl) (by kernel_rfl) (by kernel_rfl) (fun _ _ _ h => h) (Or.inl ⟨by rfl, fun w hSw => by (try dsimp only at hSw); go_simp⟩) (by assumption) ?_
    simp only [Act.put]
    refine wpAnyH_ready (rs := [10]) (by kernel_rfl) (by simp) ?_
    refine AllReadyH.cons (o := _) rfl (fun K hK => ?_) AllReadyH.nil
    refine step_cpy 27 rfl _ _ rfl (.slice (some ⟨g, n, none⟩) (N - n) (N - n)) (.slice sb n2 kb) (by first | rfl | (simp [Act.eval]; done) | (simp [Act.eval, Act.put]; done)) (by first | rfl | (simp [Act.eval]; done) | (simp [Act.eval, Act.put]; done)) hrun2 ?_
    refine hK.out _ _ (HKS.out _ HF2) (fun hHeld2 => ?_)
    clear hK K
    simp only [Act.put]
    refine wpAnyH_done (by kernel_rfl) ?_ _
    clear hrun1 hrun2
    go_wp2_with fail
    exact bodyPost_ret (v := .tuple #[.agg #[.int .i64 R, .int .i64 c, .slice (some ⟨g, 0, none⟩) N N], .int .i64 0]) (by simp [results, Try.results10, go_sem, b0, b1, b2]) rfl ⟨⟨g, _, rfl, StoM.fn HFN.out HF2.out.2.2.2.1, HPV.out⟩, StoM.below HF2.out.1 HRB.out⟩
end Go.Proofs.Ytehgiegmdpaomaa
