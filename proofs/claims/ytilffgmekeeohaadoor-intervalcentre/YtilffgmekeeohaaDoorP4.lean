
/- Ends as interval keeps them: no NaN, no -0: alike in value, alike in bits; the lesser and the greater of two. -/
import Derived.Test.YtilffgmekeeohaaDoorP2
import Derived.Test.YtilffgmekeeohaaDoorP3
namespace Go.Proofs.YtilffgmekeeohaaDoor
open Go.RowKit Go.IntWalk

def Cn (x : Nat) : Prop := x < 18446744073709551616 ∧ x % 9223372036854775808 ≤ 9218868437227405312 ∧ x ≠ 9223372036854775808
theorem inv_inj {r s : Nat} (h : nv r = nv s) : r = s := by
  rcases Nat.lt_trichotomy r s with c | c | c
  · have := nv_lt c; omega
  · exact c
  · have := nv_lt c; omega
theorem nv_0 : nv 0 = 0 := by decide +kernel
theorem cn_inj {x y : Nat} (hx : Cn x) (hy : Cn y) (h : sv x = sv y) : x = y := by
  obtain ⟨x1, x2, x3⟩ := hx
  obtain ⟨y1, y2, y3⟩ := hy
  unfold sv at h
  have h0 := nv_0
  have key : ∀ r, nv r = 0 → r = 0 := fun r hr => inv_inj (hr.trans h0.symm)
  split at h <;> split at h
  · have := inv_inj (Int.ofNat.inj (Int.neg_inj.1 h)); omega
  · have a1 := key _ (by omega : nv (x % 9223372036854775808) = 0); omega
  · have a1 := key _ (by omega : nv (y % 9223372036854775808) = 0); omega
  · have := inv_inj (Int.ofNat.inj h); omega
theorem cn_order {x y : Nat} (hx : Cn x) (hy : Cn y) : FloatKind.f64.format.order x y = some (compare (sv x) (sv y)) := order_eq x y hx.1 hy.1 hx.2.1 hy.2.1
def mn (x y : Nat) : Nat := if sv y < sv x then y else x
def mx (x y : Nat) : Nat := if sv x < sv y then y else x
theorem run_mn {x y : Nat} (hx : Cn x) (hy : Cn y) (ts : Array TypeId) (t : TypeId) (w : World) : (Builtin.min_ ts t #[.float .f64 x, .float .f64 y]).run Tryd.prog w = .ok (.float .f64 (mn x y)) w := by
  unfold mn
  simp only [Builtin.min_]
  rcases Int.lt_trichotomy (sv x) (sv y) with c | c | c
  · rw [if_neg (by omega)]
    simp [Builtin.min2, cn_order hx hy, cmp_lt c]
  · rw [if_neg (by omega)]
    simp [Builtin.min2, cn_order hx hy, cmp_eq c]
    rw [cn_inj hx hy c]
    simp
  · rw [if_pos c]
    simp [Builtin.min2, cn_order hx hy, cmp_gt c]
theorem run_mx {x y : Nat} (hx : Cn x) (hy : Cn y) (ts : Array TypeId) (t : TypeId) (w : World) : (Builtin.max_ ts t #[.float .f64 x, .float .f64 y]).run Tryd.prog w = .ok (.float .f64 (mx x y)) w := by
  unfold mx
  simp only [Builtin.max_]
  rcases Int.lt_trichotomy (sv x) (sv y) with c | c | c
  · rw [if_pos c]
    simp [Builtin.max2, cn_order hx hy, cmp_lt c]
  · rw [if_neg (by omega)]
    simp [Builtin.max2, cn_order hx hy, cmp_eq c]
    rw [cn_inj hx hy c]
    simp
  · rw [if_neg (by omega)]
    simp [Builtin.max2, cn_order hx hy, cmp_gt c]
theorem order_some {x y : Nat} (h : FloatKind.f64.format.order x y ≠ none) : x % 9223372036854775808 ≤ 9218868437227405312 := by
  by_cases c : 9218868437227405312 < x % 9223372036854775808
  · exact absurd (order_nan_l x y c) h
  · omega
theorem cn_plus {x : Nat} (hx : x < 18446744073709551616) (h : x % 9223372036854775808 ≤ 9218868437227405312) : Cn (plusOf x) := by
  unfold plusOf
  split
  · exact ⟨by decide, by decide, by decide⟩
  · rename_i c
    refine ⟨hx, h, ?_⟩
    rintro rfl
    exact c (by decide +kernel)
theorem full_nums {lo hi : Nat} (h : fullB lo hi = true) : lo % 9223372036854775808 ≤ 9218868437227405312 ∧ hi % 9223372036854775808 ≤ 9218868437227405312 := by
  unfold fullB at h
  simp at h
  obtain ⟨⟨_, h2⟩, h3⟩ := h
  exact ⟨order_some (by rw [h2]; simp), order_some (by rw [h3]; simp)⟩
theorem cn_bt {lo hi : Nat} (h1 : lo < 18446744073709551616) (h2 : hi < 18446744073709551616) : Cn (btLo lo hi) ∧ Cn (btHi lo hi) := by
  unfold btLo btHi
  split
  · rename_i c
    obtain ⟨a, b⟩ := full_nums c
    exact ⟨cn_plus h1 a, cn_plus h2 b⟩
  · exact ⟨⟨by decide, by decide, by decide⟩, ⟨by decide, by decide, by decide⟩⟩
theorem cn_mn {x y : Nat} (hx : Cn x) (hy : Cn y) : Cn (mn x y) ∧ Cn (mx x y) := by
  unfold mn mx
  constructor <;> split <;> assumption
end Go.Proofs.YtilffgmekeeohaaDoor

namespace Go.Proofs.YtilffgmekeeohaaDoor
open Go.RowKit Go.IntWalk

theorem iblk3 (w : World) (A B C : Obj) : (((w.alloc A).alloc B).alloc C).heap[w.heap.size]? = some A ∧ (((w.alloc A).alloc B).alloc C).heap[w.heap.size + 1]? = some B ∧ (((w.alloc A).alloc B).alloc C).heap[w.heap.size + 1 + 1]? = some C := by
  obtain ⟨h1, h2⟩ := iblk2 w A B
  have hb := (Below.refl ((w.alloc A).alloc B).heap.size ((w.alloc A).alloc B)).alloc (Nat.le_refl _) C
  refine ⟨(hb.block _ (by simp; omega)).trans h1, (hb.block _ (by simp)).trans h2, ?_⟩
  have := inew ((w.alloc A).alloc B) C
  simpa using this
/-- The cells of three blocks of ends. -/
def Cells3 (W : World) (n a b c d : Nat) : Prop := (W.cell? ⟨n, 0, none⟩ = some (.float .f64 a) ∧ W.cell? ⟨n, 1, none⟩ = some (.float .f64 b)) ∧ (W.cell? ⟨n + 1, 0, none⟩ = some (.float .f64 c) ∧ W.cell? ⟨n + 1, 1, none⟩ = some (.float .f64 d)) ∧ (W.cell? ⟨n + 1 + 1, 0, none⟩ = some (.float .f64 0) ∧ W.cell? ⟨n + 1 + 1, 1, none⟩ = some (.float .f64 0)) ∧ (∀ o, W.frozen? ⟨n, o, none⟩ = false) ∧ (∀ o, W.frozen? ⟨n + 1, o, none⟩ = false) ∧ (∀ o, W.frozen? ⟨n + 1 + 1, o, none⟩ = false)
/-- A world behind four stores into the first two blocks. -/
def Set4 (W : World) (n : Nat) (p q r s : Value) : World := (((W.setCell ⟨n, 0, none⟩ p).setCell ⟨n, 1, none⟩ q).setCell ⟨n + 1, 0, none⟩ r).setCell ⟨n + 1, 1, none⟩ s
theorem set4 {w W0 W : World} (h0 : Below w.heap.size w W0) (hr : W0.heap[w.heap.size + 1 + 1]? = some (IBox 0 0)) (h : Below W0.heap.size W0 W) (p q r s : Value) : Below w.heap.size w (Set4 W w.heap.size p q r s) ∧ (Set4 W w.heap.size p q r s).heap[w.heap.size + 1 + 1]? = some (IBox 0 0) := by
  have hb : Below w.heap.size w W := h0.trans (h.mono h0.size)
  refine ⟨Below.setCell (Below.setCell (Below.setCell (Below.setCell hb (Nat.le_refl _) _) (Nat.le_refl _) _) (Nat.le_succ _) _) (Nat.le_succ _) _, ?_⟩
  unfold Set4
  rw [Below.heap_setCell _ _ _ _ (by show _ ≠ w.heap.size + 1; omega), Below.heap_setCell _ _ _ _ (by show _ ≠ w.heap.size + 1; omega), Below.heap_setCell _ _ _ _ (by show _ ≠ w.heap.size; omega), Below.heap_setCell _ _ _ _ (by show _ ≠ w.heap.size; omega)]
  exact (h.block _ (Array.getElem?_eq_some_iff.1 hr).1).trans hr
end Go.Proofs.YtilffgmekeeohaaDoor

namespace Go.Proofs.YtilffgmekeeohaaDoor
open Go.RowKit Go.IntWalk

set_option maxHeartbeats 2000000 in
theorem Meet_any (a b c d : Nat) (w : World) (ha : a < 18446744073709551616) (hb : b < 18446744073709551616) (hc : c < 18446744073709551616) (hd : d < 18446744073709551616) : Calls Tryd.prog 42 #[IV a b, IV c d] w fun r w' => r = .returned (IV (btLo (mx (btLo a b) (btLo c d)) (mn (btHi a b) (btHi c d))) (btHi (mx (btLo a b) (btLo c d)) (mn (btHi a b) (btHi c d)))) ∧ Below w.heap.size w w' := by
  obtain ⟨g1, g2, g3⟩ := iblk3 w (IBox a b) (IBox c d) (IBox 0 0)
  have HB0 : Hid (Below w.heap.size w (((w.alloc (IBox a b)).alloc (IBox c d)).alloc (IBox 0 0))) := (((Below.refl _ _).alloc (Nat.le_refl _) _).alloc (by simp) _).alloc (by simp; omega) _
  obtain ⟨W0, hW0⟩ : ∃ V, Hid (((w.alloc (IBox a b)).alloc (IBox c d)).alloc (IBox 0 0) = V) := ⟨_, rfl⟩
  rw [hW0.out] at HB0 g1 g2 g3
  have HC : Hid (∀ W, Hid (Below W0.heap.size W0 W) → Cells3 W w.heap.size a b c d) := fun W hW => by
    have t1 := icells_of ((hW.out.block _ (Array.getElem?_eq_some_iff.1 g1).1).trans g1)
    have t2 := icells_of ((hW.out.block _ (Array.getElem?_eq_some_iff.1 g2).1).trans g2)
    have t3 := icells_of ((hW.out.block _ (Array.getElem?_eq_some_iff.1 g3).1).trans g3)
    exact ⟨⟨t1.1, t1.2.1⟩, ⟨t2.1, t2.2.1⟩, ⟨t3.1, t3.2.1⟩, t1.2.2, t2.2.2, t3.2.2⟩
  obtain ⟨n1, n2⟩ := cn_bt ha hb
  obtain ⟨n3, n4⟩ := cn_bt hc hd
  have HMN := hid (run_mx n1 n3)
  have HMX := hid (run_mn n2 n4)
  have HT : Hid (∀ x y W, Hid (Below W0.heap.size W0 W) → Calls Tryd.prog 22 #[IV x y] W fun r w' => r = .returned (IV (btLo x y) (btHi x y)) ∧ Cells3 w' w.heap.size a b c d ∧ Hid (Below W0.heap.size W0 w')) := fun x y W hW => by
    refine (taken_any x y W).mono ?_
    rintro r w' ⟨rfl, h⟩
    have h' : Below W0.heap.size W0 w' := hW.out.trans (h.mono hW.out.size)
    exact ⟨rfl, HC.out _ h', h'⟩
  have HQ0 : Hid (Below W0.heap.size W0 W0.drew) := (Below.refl _ _).drew
  obtain ⟨⟨y0, y1⟩, ⟨y2, y3⟩, _⟩ := HC.out W0 (Below.refl _ _)
  have HBT := hid (between_any (mx (btLo a b) (btLo c d)) (mn (btHi a b) (btHi c d)))
  obtain ⟨L, hL⟩ : ∃ z, Hid (mx (btLo a b) (btLo c d) = z) := ⟨_, rfl⟩
  obtain ⟨H, hH⟩ : ∃ z, Hid (mn (btHi a b) (btHi c d) = z) := ⟨_, rfl⟩
  rw [hL.out] at HMN HBT ⊢
  rw [hH.out] at HMX HBT ⊢
  obtain ⟨P, hP⟩ : ∃ z, Hid (btLo L H = z) := ⟨_, rfl⟩
  obtain ⟨Q, hQ⟩ : ∃ z, Hid (btHi L H = z) := ⟨_, rfl⟩
  rw [hP.out, hQ.out] at HBT ⊢
  have HBW : Hid (∀ W p q r s, Hid (Below W0.heap.size W0 W) → Calls Tryd.prog 38 #[.float .f64 L, .float .f64 H] (Set4 W w.heap.size p q r s) fun z w' => z = .returned (IV P Q) ∧ w'.cell? ⟨w.heap.size + 1 + 1, 0, none⟩ = some (.float .f64 0) ∧ w'.cell? ⟨w.heap.size + 1 + 1, 1, none⟩ = some (.float .f64 0) ∧ (∀ o, w'.frozen? ⟨w.heap.size + 1 + 1, o, none⟩ = false) ∧ Hid (Below w.heap.size w w')) := fun W p q r s hW => by
    obtain ⟨k1, k2⟩ := set4 HB0.out g3 hW.out p q r s
    refine (HBT.out _).mono ?_
    rintro z w' ⟨rfl, hb⟩
    have k3 := (hb.block _ (Array.getElem?_eq_some_iff.1 k2).1).trans k2
    obtain ⟨t1, t2, t3⟩ := icells_of k3
    exact ⟨rfl, t1, t2, t3, k1.trans (hb.mono k1.size)⟩
  have hmn := HMN.out
  have hmx := HMX.out
  have hst := fstore
  unfold IBox at hW0
  have hW0' := hW0.out
  unfold IV Set4 at HBW
  unfold IV at HT ⊢
  clear ha hb hc hd n1 n2 n3 n4 g1 g2 g3
  go_enter Tryd.func42, Tryd.ntmps42
  go_wp2_with fail
  go_region_with (first
    | (go_at_call 22; refine (HT.out _ _ _ (by assumption)).mono ?_; rintro r w1 ⟨rfl, ⟨⟨x0, x1⟩, ⟨x2, x3⟩, ⟨x4, x5⟩, f0, f1, f2⟩, HF⟩))
  all_goals go_wp2_with fail
  all_goals refine (HBW.out _ _ _ _ _ (by assumption)).mono ?_
  all_goals rintro z w4 ⟨rfl, z0, z1, z2, HB4⟩
  all_goals go_wp2
  all_goals exact bodyPost_ret (v := IV P Q) (by simp [results, Tryd.results42, go_sem, z0, z1, IV]) rfl ⟨rfl, Below.setCell (Below.setCell HB4.out (Nat.le_trans (Nat.le_succ _) (Nat.le_succ _)) _) (Nat.le_trans (Nat.le_succ _) (Nat.le_succ _)) _⟩
end Go.Proofs.YtilffgmekeeohaaDoor

namespace Go.Proofs.YtilffgmekeeohaaDoor
open Go.RowKit Go.IntWalk

/-- What the walk leaves of 'x <= y'. -/
def leB (x y : Nat) : Bool := FloatKind.f64.format.order x y == some .lt || FloatKind.f64.format.order x y == some .eq
theorem le_sv {x y : Nat} (hx : Cn x) (hy : Cn y) : leB x y = decide (sv x ≤ sv y) := by
  unfold leB
  rw [cn_order hx hy]
  rcases Int.lt_trichotomy (sv x) (sv y) with c | c | c
  · rw [cmp_lt c, decide_eq_true (by omega)]; rfl
  · rw [cmp_eq c, decide_eq_true (by omega)]; rfl
  · rw [cmp_gt c, decide_eq_false (by omega)]; rfl
theorem lt_sv {x y : Nat} (hx : Cn x) (hy : Cn y) : (FloatKind.f64.format.order x y == some .lt) = decide (sv x < sv y) := by
  rw [cn_order hx hy]
  rcases Int.lt_trichotomy (sv x) (sv y) with c | c | c
  · rw [cmp_lt c, decide_eq_true (by omega)]; rfl
  · rw [cmp_eq c, decide_eq_false (by omega)]; rfl
  · rw [cmp_gt c, decide_eq_false (by omega)]; rfl
theorem le_not {x y : Nat} (h : ¬ (FloatKind.f64.format.order x y = some .lt ∨ FloatKind.f64.format.order x y = some .eq)) : leB x y = false := by
  unfold leB
  rw [not_or] at h
  simp [h.1, h.2]
end Go.Proofs.YtilffgmekeeohaaDoor

namespace Go.Proofs.YtilffgmekeeohaaDoor
open Go.RowKit Go.IntWalk

/-- The ends of what both hold. -/
def meLo (a b c d : Nat) : Nat := btLo (mx (btLo a b) (btLo c d)) (mn (btHi a b) (btHi c d))
def meHi (a b c d : Nat) : Nat := btHi (mx (btLo a b) (btLo c d)) (mn (btHi a b) (btHi c d))
set_option maxHeartbeats 1000000 in
theorem All_any (w : World) : Calls Tryd.prog 25 #[] w fun r w' => r = .returned (IV 18442240474082181120 9218868437227405312) ∧ Below w.heap.size w w' := by
  have HB0 : Hid (Below w.heap.size w (w.alloc (IBox 0 0))) := (Below.refl _ _).alloc (Nat.le_refl _) _
  have HR := inew w (IBox 0 0)
  obtain ⟨W0, hW0⟩ : ∃ V, Hid (w.alloc (IBox 0 0) = V) := ⟨_, rfl⟩
  rw [hW0.out] at HB0 HR
  obtain ⟨z0, z1, z2⟩ := icells_of (show W0.heap[w.heap.size]? = some (.cells #[.float .f64 0, .float .f64 0] 28) from HR)
  unfold IBox at hW0
  have hW0' := hW0.out
  have hst := fstore
  clear HR
  go_enter Tryd.func25, Tryd.ntmps25
  go_wp2_with fail
  refine (Inf_neg _).mono ?_
  rintro r w1 ⟨rfl, rfl⟩
  go_wp2_with fail
  refine (Inf_pos _).mono ?_
  rintro r w1 ⟨rfl, rfl⟩
  go_wp2
  exact bodyPost_ret (v := IV 18442240474082181120 9218868437227405312) (by simp [results, Tryd.results25, go_sem, z0, z1, IV]) rfl ⟨rfl, Below.setCell (Below.setCell HB0.out (Nat.le_refl _) _) (Nat.le_refl _) _⟩
set_option maxHeartbeats 1000000 in
theorem Is_any (lo hi : Nat) (w : World) : Calls Tryd.prog 9 #[IV lo hi] w fun r w' => r = .returned (.bool (fullB lo hi || noneB lo hi)) ∧ Below w.heap.size w w' := by
  have HB0 : Hid (Below w.heap.size w (w.alloc (IBox lo hi))) := (Below.refl _ _).alloc (Nat.le_refl _) _
  have g1 := inew w (IBox lo hi)
  obtain ⟨W0, hW0⟩ : ∃ V, Hid (w.alloc (IBox lo hi) = V) := ⟨_, rfl⟩
  rw [hW0.out] at HB0 g1
  obtain ⟨d0, d1, d2⟩ := icells_of (show W0.heap[w.heap.size]? = some (.cells #[.float .f64 lo, .float .f64 hi] 28) from g1)
  have HE := hid (areEnds_any lo hi)
  have HN := hid (none_any lo hi)
  obtain ⟨A, hA⟩ : ∃ z, Hid (fullB lo hi = z) := ⟨_, rfl⟩
  obtain ⟨B, hB⟩ : ∃ z, Hid (noneB lo hi = z) := ⟨_, rfl⟩
  rw [hA.out] at HE ⊢
  rw [hB.out] at HN ⊢
  unfold IBox at hW0
  have hW0' := hW0.out
  unfold IV at HN ⊢
  clear g1
  cases A
  · go_enter Tryd.func9, Tryd.ntmps9
    go_wp2_with fail
    refine (HE.out _).mono ?_
    rintro r w1 ⟨rfl, rfl⟩
    go_wp2_with fail
    refine (HN.out _).mono ?_
    rintro r w2 ⟨rfl, hb2⟩
    have HB2 := hid (HB0.out.trans (hb2.mono HB0.out.size))
    clear hb2
    go_wp2
    go_ret
    exact ⟨rfl, HB2.out⟩
  · go_enter Tryd.func9, Tryd.ntmps9
    go_wp2_with fail
    refine (HE.out _).mono ?_
    rintro r w1 ⟨rfl, rfl⟩
    go_wp2
    go_ret
    exact ⟨rfl, HB0.out⟩
/-- New's answer. -/
def newV (lo hi : Nat) : Value := if fullB lo hi = true then .tuple #[IV (plusOf lo) (plusOf hi), .int .i64 0] else .tuple #[IV 0 0, .int .i64 60]
set_option maxHeartbeats 1000000 in
theorem New_any (lo hi : Nat) (w : World) : Calls Tryd.prog 19 #[.float .f64 lo, .float .f64 hi] w fun r w' => r = .returned (newV lo hi) ∧ Below w.heap.size w w' := by
  have HB0 : Hid (Below w.heap.size w (w.alloc (IBox 0 0))) := (Below.refl _ _).alloc (Nat.le_refl _) _
  have HR := inew w (IBox 0 0)
  have HRB := hid (fun (W : World) (h : Below (w.alloc (IBox 0 0)).heap.size (w.alloc (IBox 0 0)) W) => ikeep h)
  obtain ⟨W0, hW0⟩ : ∃ V, Hid (w.alloc (IBox 0 0) = V) := ⟨_, rfl⟩
  rw [hW0.out] at HB0 HR HRB
  have HE := hid (areEnds_any lo hi W0)
  unfold IBox at hW0
  have hW0' := hW0.out
  have hst := fstore
  by_cases c : fullB lo hi = true
  · have e0 : newV lo hi = .tuple #[IV (plusOf lo) (plusOf hi), .int .i64 0] := if_pos c
    have HBT := hid (between_any lo hi)
    have e1 : btLo lo hi = plusOf lo := if_pos c
    have e2 : btHi lo hi = plusOf hi := if_pos c
    rw [e1, e2] at HBT
    rw [e0]
    rw [c] at HE
    obtain ⟨p, hp⟩ : ∃ p, Hid (plusOf lo = p) := ⟨_, rfl⟩
    obtain ⟨q, hq⟩ : ∃ p, Hid (plusOf hi = p) := ⟨_, rfl⟩
    rw [hp.out, hq.out] at HBT ⊢
    clear HR c e1 e2 e0
    unfold IV at HBT
    go_enter Tryd.func19, Tryd.ntmps19
    go_wp2_with fail
    refine HE.out.mono ?_
    rintro r w1 ⟨rfl, rfl⟩
    go_wp2_with fail
    refine (HBT.out _).mono ?_
    rintro r w2 ⟨rfl, hb2⟩
    have HR := HRB.out _ hb2
    have HB2 := hid (HB0.out.trans (hb2.mono HB0.out.size))
    obtain ⟨z0, z1, z2⟩ := icells_of (show w2.heap[w.heap.size]? = some (.cells #[.float .f64 0, .float .f64 0] 28) from HR)
    clear HR hb2
    go_wp2
    exact bodyPost_ret (v := .tuple #[IV p q, .int .i64 0]) (by simp [results, Tryd.results19, go_sem, z0, z1, IV]) rfl ⟨rfl, Below.setCell (Below.setCell HB2.out (Nat.le_refl _) _) (Nat.le_refl _) _⟩
  · have e0 : newV lo hi = .tuple #[IV 0 0, .int .i64 60] := if_neg c
    rw [e0]
    rw [Bool.eq_false_iff.2 c] at HE
    obtain ⟨z0, z1, z2⟩ := icells_of (show W0.heap[w.heap.size]? = some (.cells #[.float .f64 0, .float .f64 0] 28) from HR)
    clear HR c e0
    go_enter Tryd.func19, Tryd.ntmps19
    go_wp2_with fail
    refine HE.out.mono ?_
    rintro r w1 ⟨rfl, rfl⟩
    go_wp2
    exact bodyPost_ret (v := .tuple #[IV 0 0, .int .i64 60]) (by simp [results, Tryd.results19, go_sem, z0, z1, IV]) rfl ⟨rfl, Below.setCell (Below.setCell HB0.out (Nat.le_refl _) _) (Nat.le_refl _) _⟩
end Go.Proofs.YtilffgmekeeohaaDoor
