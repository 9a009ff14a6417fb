
/- Intervals as sets, in plain arithmetic: ends by their values. -/
import Derived.Test.YtilffgmekeeohaaDoorP4
namespace Go.Proofs.YtilffgmekeeohaaDoor
open Go.RowKit Go.IntWalk

/-- The value of the infinity, in steps of 2^-1074. -/
def PI : Int := sv 9218868437227405312
theorem pi_neg : sv 18442240474082181120 = -PI := by decide +kernel
theorem pi_pos : 0 < PI := by decide +kernel
theorem cn_pi : Cn 9218868437227405312 := ⟨by decide, by decide, by decide⟩
theorem cn_ni : Cn 18442240474082181120 := ⟨by decide, by decide, by decide⟩
theorem cn_0 : Cn 0 := ⟨by decide, by decide, by decide⟩
theorem nv_mono {r s : Nat} (h : r ≤ s) : nv r ≤ nv s := by
  rcases Nat.lt_or_eq_of_le h with c | c
  · have := nv_lt c; omega
  · rw [c]; omega
theorem pi_nv : PI = (nv 9218868437227405312 : Int) := by
  unfold PI sv
  rw [if_neg (by decide)]
/-- No number is beyond the infinities. -/
theorem cn_bound {x : Nat} (h : Cn x) : -PI ≤ sv x ∧ sv x ≤ PI := by
  obtain ⟨h1, h2, h3⟩ := h
  have := nv_mono h2
  have e := pi_nv
  unfold sv
  split <;> omega
theorem bt_full_sv {l h : Nat} (hl : Cn l) (hh : Cn h) : fullB l h = decide (sv l ≤ sv h ∧ sv l < PI ∧ -PI < sv h) := by
  have e1 : leB l h = decide (sv l ≤ sv h) := le_sv hl hh
  have e2 : (FloatKind.f64.format.order l 9218868437227405312 == some .lt) = decide (sv l < PI) := lt_sv hl cn_pi
  have e3 : (FloatKind.f64.format.order h 18442240474082181120 == some .gt) = decide (-PI < sv h) := by
    rw [cn_order hh cn_ni, pi_neg]
    rcases Int.lt_trichotomy (sv h) (-PI) with c | c | c
    · rw [cmp_lt c, decide_eq_false (by omega)]; rfl
    · rw [cmp_eq c, decide_eq_false (by omega)]; rfl
    · rw [cmp_gt c, decide_eq_true (by omega)]; rfl
  unfold leB at e1
  unfold fullB
  rw [e1, e2, e3]
  by_cases c1 : sv l ≤ sv h <;> by_cases c2 : sv l < PI <;> by_cases c3 : -PI < sv h <;> simp [c1, c2, c3]
theorem plus_cn {x : Nat} (h : Cn x) : plusOf x = x := by
  unfold plusOf
  split
  · rename_i c
    rw [cn_order h cn_0] at c
    have : sv x = sv 0 := Int.compare_eq_eq.1 (Option.some.inj c)
    exact (cn_inj h cn_0 this).symm
  · rfl
/-- Two ends as they are kept: those of an interval, or the empty one's. -/
def Nrm (l h : Nat) : Prop := Cn l ∧ Cn h ∧ ((sv l ≤ sv h ∧ sv l < PI ∧ -PI < sv h) ∨ (sv l = PI ∧ sv h = -PI))
theorem bt_cn {l h : Nat} (hl : Cn l) (hh : Cn h) : sv (btLo l h) = (if sv l ≤ sv h ∧ sv l < PI ∧ -PI < sv h then sv l else PI) ∧ sv (btHi l h) = (if sv l ≤ sv h ∧ sv l < PI ∧ -PI < sv h then sv h else -PI) := by
  unfold btLo btHi
  rw [bt_full_sv hl hh]
  by_cases c : sv l ≤ sv h ∧ sv l < PI ∧ -PI < sv h
  · rw [if_pos (decide_eq_true c), if_pos (decide_eq_true c), if_pos c, if_pos c, plus_cn hl, plus_cn hh]
    exact ⟨rfl, rfl⟩
  · rw [decide_eq_false c, if_neg c, if_neg c]
    exact ⟨rfl, pi_neg⟩
theorem nrm_cn {l h : Nat} (hl : Cn l) (hh : Cn h) : Nrm (btLo l h) (btHi l h) := by
  obtain ⟨c1, c2⟩ := cn_bt hl.1 hh.1
  refine ⟨c1, c2, ?_⟩
  obtain ⟨e1, e2⟩ := bt_cn hl hh
  rw [e1, e2]
  split
  · rename_i c; exact Or.inl c
  · exact Or.inr ⟨rfl, rfl⟩
theorem bt_nrm {l h : Nat} (H : Nrm l h) : btLo l h = l ∧ btHi l h = h := by
  obtain ⟨c1, c2, c3⟩ := H
  obtain ⟨k1, k2⟩ := cn_bt c1.1 c2.1
  obtain ⟨e1, e2⟩ := bt_cn c1 c2
  constructor
  · refine cn_inj k1 c1 ?_
    rw [e1]; split <;> omega
  · refine cn_inj k2 c2 ?_
    rw [e2]; split <;> omega
/-- plus keeps a number's value. -/
theorem plus_sv (x : Nat) (hx : x < 18446744073709551616) (hn : x % 9223372036854775808 ≤ 9218868437227405312) : sv (plusOf x) = sv x := by
  unfold plusOf
  split
  · rename_i c
    rw [order_eq x 0 hx (by decide) hn (by decide)] at c
    exact (Int.compare_eq_eq.1 (Option.some.inj c)).symm
  · rfl
/-- What is kept of any ends is in order. -/
theorem nrm_any {a b : Nat} (ha : a < 18446744073709551616) (hb : b < 18446744073709551616) : Nrm (btLo a b) (btHi a b) := by
  obtain ⟨c1, c2⟩ := cn_bt ha hb
  refine ⟨c1, c2, ?_⟩
  by_cases c : fullB a b = true
  · obtain ⟨n1, n2⟩ := full_nums c
    have e1 : btLo a b = plusOf a := if_pos c
    have e2 : btHi a b = plusOf b := if_pos c
    rw [e1, e2, plus_sv a ha n1, plus_sv b hb n2]
    left
    unfold fullB at c
    rw [order_eq a b ha hb n1 n2, order_eq a _ ha (by decide) n1 (by decide), order_eq b _ hb (by decide) n2 (by decide), pi_neg] at c
    simp at c
    obtain ⟨⟨q1, q2⟩, q3⟩ := c
    refine ⟨?_, Int.compare_eq_lt.1 q2, Int.compare_eq_gt.1 q3⟩
    rcases q1 with q1 | q1
    · have := Int.compare_eq_lt.1 q1; omega
    · omega
  · have e1 : btLo a b = 9218868437227405312 := if_neg c
    have e2 : btHi a b = 18442240474082181120 := if_neg c
    rw [e1, e2]
    exact Or.inr ⟨rfl, pi_neg⟩
theorem sv_mn (x y : Nat) : sv (mn x y) = min (sv x) (sv y) := by
  unfold mn
  split <;> omega
theorem sv_mx (x y : Nat) : sv (mx x y) = max (sv x) (sv y) := by
  unfold mx
  split <;> omega
/-- The hull of what is in order. -/
theorem hull_nrm {a b c d : Nat} (h1 : Nrm a b) (h2 : Nrm c d) : Nrm (mn a c) (mx b d) := by
  obtain ⟨p1, p2, p3⟩ := h1
  obtain ⟨q1, q2, q3⟩ := h2
  refine ⟨(cn_mn p1 q1).1, (cn_mn p2 q2).2, ?_⟩
  have b1 := cn_bound p1; have b2 := cn_bound p2; have b3 := cn_bound q1; have b4 := cn_bound q2
  have := pi_pos
  rw [sv_mn, sv_mx]
  omega
/-- Hull's and Meet's ends, of ends that are kept. -/
def huL (a b c d : Nat) : Nat := btLo (mn (btLo a b) (btLo c d)) (mx (btHi a b) (btHi c d))
def huH (a b c d : Nat) : Nat := btHi (mn (btLo a b) (btLo c d)) (mx (btHi a b) (btHi c d))
/-- Ends are numbers of 64 bits. -/
def E2 (a b : Nat) : Prop := a < 18446744073709551616 ∧ b < 18446744073709551616
theorem hu_eq {a b c d : Nat} (h1 : E2 a b) (h2 : E2 c d) : huL a b c d = mn (btLo a b) (btLo c d) ∧ huH a b c d = mx (btHi a b) (btHi c d) := bt_nrm (hull_nrm (nrm_any h1.1 h1.2) (nrm_any h2.1 h2.2))
theorem hu_nrm {a b c d : Nat} (h1 : E2 a b) (h2 : E2 c d) : Nrm (huL a b c d) (huH a b c d) := by
  obtain ⟨e1, e2⟩ := hu_eq h1 h2
  rw [e1, e2]
  exact hull_nrm (nrm_any h1.1 h1.2) (nrm_any h2.1 h2.2)
theorem me_nrm {a b c d : Nat} (h1 : E2 a b) (h2 : E2 c d) : Nrm (meLo a b c d) (meHi a b c d) := by
  obtain ⟨p1, p2, _⟩ := nrm_any h1.1 h1.2
  obtain ⟨q1, q2, _⟩ := nrm_any h2.1 h2.2
  exact nrm_cn (cn_mn p1 q1).2 (cn_mn p2 q2).1
theorem nrm_e2 {a b : Nat} (h : Nrm a b) : E2 a b := ⟨h.1.1, h.2.1.1⟩
theorem nrm_eq {a b c d : Nat} (h1 : Nrm a b) (h2 : Nrm c d) (e1 : sv a = sv c) (e2 : sv b = sv d) : a = c ∧ b = d := ⟨cn_inj h1.1 h2.1 e1, cn_inj h1.2.1 h2.2.1 e2⟩
/-- The values of Hull's and Meet's ends. -/
theorem hu_sv {a b c d : Nat} (h1 : E2 a b) (h2 : E2 c d) : sv (huL a b c d) = min (sv (btLo a b)) (sv (btLo c d)) ∧ sv (huH a b c d) = max (sv (btHi a b)) (sv (btHi c d)) := by
  obtain ⟨e1, e2⟩ := hu_eq h1 h2
  rw [e1, e2, sv_mn, sv_mx]
  exact ⟨rfl, rfl⟩
theorem me_sv {a b c d : Nat} (h1 : E2 a b) (h2 : E2 c d) :
    sv (meLo a b c d) = (if max (sv (btLo a b)) (sv (btLo c d)) ≤ min (sv (btHi a b)) (sv (btHi c d)) then max (sv (btLo a b)) (sv (btLo c d)) else PI) ∧ sv (meHi a b c d) = (if max (sv (btLo a b)) (sv (btLo c d)) ≤ min (sv (btHi a b)) (sv (btHi c d)) then min (sv (btHi a b)) (sv (btHi c d)) else -PI) := by
  obtain ⟨p1, p2, p3⟩ := nrm_any h1.1 h1.2
  obtain ⟨q1, q2, q3⟩ := nrm_any h2.1 h2.2
  obtain ⟨e1, e2⟩ := bt_cn (cn_mn p1 q1).2 (cn_mn p2 q2).1
  unfold meLo meHi
  rw [sv_mn, sv_mx] at e1 e2
  rw [e1, e2]
  have := pi_pos
  have b1 := cn_bound p1; have b2 := cn_bound p2; have b3 := cn_bound q1; have b4 := cn_bound q2
  clear e1 e2
  generalize sv (btLo a b) = A at *
  generalize sv (btHi a b) = B at *
  generalize sv (btLo c d) = C at *
  generalize sv (btHi c d) = D at *
  by_cases k : max A C ≤ min B D
  · rw [if_pos k, if_pos k, if_pos (by omega), if_pos (by omega)]
    exact ⟨rfl, rfl⟩
  · rw [if_neg k, if_neg k, if_neg (fun h => k h.1), if_neg (fun h => k h.1)]
    exact ⟨rfl, rfl⟩
theorem three (P a b c d e f : Int) (hP : 0 < P) (b1 : -P ≤ a ∧ a ≤ P) (b2 : -P ≤ b ∧ b ≤ P) (b5 : -P ≤ e ∧ e ≤ P) (b6 : -P ≤ f ∧ f ≤ P) (l h l' h' : Int)
    (e1 : l = if max c e ≤ min d f then max c e else P) (e2 : h = if max c e ≤ min d f then min d f else -P)
    (e3 : l' = if max a c ≤ min b d then max a c else P) (e4 : h' = if max a c ≤ min b d then min b d else -P)
    (n1 : (a ≤ b ∧ a < P ∧ -P < b) ∨ (a = P ∧ b = -P)) (n3 : (e ≤ f ∧ e < P ∧ -P < f) ∨ (e = P ∧ f = -P)) :
    (if max a l ≤ min b h then max a l else P) = (if max l' e ≤ min h' f then max l' e else P) ∧ (if max a l ≤ min b h then min b h else -P) = (if max l' e ≤ min h' f then min h' f else -P) := by
  by_cases k1 : max c e ≤ min d f
  · rw [if_pos k1] at e1 e2
    by_cases k2 : max a c ≤ min b d
    · rw [if_pos k2] at e3 e4
      by_cases k3 : max a l ≤ min b h
      · rw [if_pos k3, if_pos k3, if_pos (by omega), if_pos (by omega)]
        omega
      · rw [if_neg k3, if_neg k3, if_neg (by omega), if_neg (by omega)]
        exact ⟨rfl, rfl⟩
    · rw [if_neg k2] at e3 e4
      rw [if_neg (by omega), if_neg (by omega), if_neg (by omega), if_neg (by omega)]
      exact ⟨rfl, rfl⟩
  · rw [if_neg k1] at e1 e2
    by_cases k2 : max a c ≤ min b d
    · rw [if_pos k2] at e3 e4
      rw [if_neg (by omega), if_neg (by omega), if_neg (by omega), if_neg (by omega)]
      exact ⟨rfl, rfl⟩
    · rw [if_neg k2] at e3 e4
      rw [if_neg (by omega), if_neg (by omega), if_neg (by omega), if_neg (by omega)]
      exact ⟨rfl, rfl⟩
/-- The laws of sets. -/
theorem hu_comm {a b c d : Nat} (h1 : E2 a b) (h2 : E2 c d) : huL a b c d = huL c d a b ∧ huH a b c d = huH c d a b := by
  obtain ⟨e1, e2⟩ := hu_sv h1 h2
  obtain ⟨f1, f2⟩ := hu_sv h2 h1
  refine nrm_eq (hu_nrm h1 h2) (hu_nrm h2 h1) ?_ ?_ <;> omega
theorem hu_self {a b : Nat} (h1 : E2 a b) : huL a b a b = btLo a b ∧ huH a b a b = btHi a b := by
  obtain ⟨e1, e2⟩ := hu_sv h1 h1
  refine nrm_eq (hu_nrm h1 h1) (nrm_any h1.1 h1.2) ?_ ?_ <;> omega
theorem me_comm {a b c d : Nat} (h1 : E2 a b) (h2 : E2 c d) : meLo a b c d = meLo c d a b ∧ meHi a b c d = meHi c d a b := by
  obtain ⟨e1, e2⟩ := me_sv h1 h2
  obtain ⟨f1, f2⟩ := me_sv h2 h1
  rw [Int.max_comm (sv (btLo c d)), Int.min_comm (sv (btHi c d))] at f1 f2
  exact nrm_eq (me_nrm h1 h2) (me_nrm h2 h1) (e1.trans f1.symm) (e2.trans f2.symm)
theorem hu_assoc {a b c d e f : Nat} (h1 : E2 a b) (h2 : E2 c d) (h3 : E2 e f) : huL a b (huL c d e f) (huH c d e f) = huL (huL a b c d) (huH a b c d) e f ∧ huH a b (huL c d e f) (huH c d e f) = huH (huL a b c d) (huH a b c d) e f := by
  have n1 := hu_nrm h1 h2
  have n2 := hu_nrm h2 h3
  obtain ⟨u1, u2⟩ := hu_sv h1 (nrm_e2 n2)
  obtain ⟨v1, v2⟩ := hu_sv (nrm_e2 n1) h3
  obtain ⟨x1, x2⟩ := hu_sv h1 h2
  obtain ⟨y1, y2⟩ := hu_sv h2 h3
  rw [(bt_nrm n2).1, y1] at u1
  rw [(bt_nrm n2).2, y2] at u2
  rw [(bt_nrm n1).1, x1] at v1
  rw [(bt_nrm n1).2, x2] at v2
  refine nrm_eq (hu_nrm h1 (nrm_e2 n2)) (hu_nrm (nrm_e2 n1) h3) ?_ ?_ <;> omega
theorem me_assoc {a b c d e f : Nat} (h1 : E2 a b) (h2 : E2 c d) (h3 : E2 e f) : meLo a b (meLo c d e f) (meHi c d e f) = meLo (meLo a b c d) (meHi a b c d) e f ∧ meHi a b (meLo c d e f) (meHi c d e f) = meHi (meLo a b c d) (meHi a b c d) e f := by
  have n1 := me_nrm h1 h2
  have n2 := me_nrm h2 h3
  obtain ⟨u1, u2⟩ := me_sv h1 (nrm_e2 n2)
  obtain ⟨v1, v2⟩ := me_sv (nrm_e2 n1) h3
  obtain ⟨x1, x2⟩ := me_sv h1 h2
  obtain ⟨y1, y2⟩ := me_sv h2 h3
  rw [(bt_nrm n2).1, (bt_nrm n2).2] at u1 u2
  rw [(bt_nrm n1).1, (bt_nrm n1).2] at v1 v2
  obtain ⟨k1, k2, k3⟩ := nrm_any h1.1 h1.2
  obtain ⟨o1, o2, o3⟩ := nrm_any h3.1 h3.2
  have T := three PI _ _ _ _ _ _ pi_pos (cn_bound k1) (cn_bound k2) (cn_bound o1) (cn_bound o2) _ _ _ _ y1 y2 x1 x2 k3 o3
  exact nrm_eq (me_nrm h1 (nrm_e2 n2)) (me_nrm (nrm_e2 n1) h3) (u1.trans (T.1.trans v1.symm)) (u2.trans (T.2.trans v2.symm))
theorem me_absorb {a b c d : Nat} (h1 : E2 a b) (h2 : E2 c d) : meLo a b (huL a b c d) (huH a b c d) = btLo a b ∧ meHi a b (huL a b c d) (huH a b c d) = btHi a b := by
  have n1 := hu_nrm h1 h2
  obtain ⟨u1, u2⟩ := me_sv h1 (nrm_e2 n1)
  rw [(bt_nrm n1).1, (bt_nrm n1).2] at u1 u2
  obtain ⟨x1, x2⟩ := hu_sv h1 h2
  have m1 := nrm_any h1.1 h1.2
  have hn := me_nrm h1 (nrm_e2 n1)
  rw [x1, x2] at u1 u2
  have key : ∀ A B C D P : Int, 0 < P → -P ≤ A ∧ A ≤ P → -P ≤ B ∧ B ≤ P → ((A ≤ B ∧ A < P ∧ -P < B) ∨ (A = P ∧ B = -P)) → (if max A (min A C) ≤ min B (max B D) then max A (min A C) else P) = A ∧ (if max A (min A C) ≤ min B (max B D) then min B (max B D) else -P) = B := by
    intro A B C D P h0 h1 h2 h3
    by_cases k : max A (min A C) ≤ min B (max B D)
    · rw [if_pos k, if_pos k]; omega
    · rw [if_neg k, if_neg k]; omega
  have k1 := m1.1
  have k2 := m1.2.1
  have k3 := m1.2.2
  have T := key _ _ (sv (btLo c d)) (sv (btHi c d)) PI pi_pos (cn_bound k1) (cn_bound k2) k3
  exact nrm_eq hn m1 (u1.trans T.1) (u2.trans T.2)
/-- Meets' answer, and what the empty one's bits tell. -/
theorem none_bits {l h : Nat} (H : Nrm l h) : noneB l h = (decide (l = 9218868437227405312) && decide (h = 18442240474082181120)) := by
  obtain ⟨c1, c2, c3⟩ := H
  unfold noneB
  have key : ∀ x y, Cn x → Cn y → (FloatKind.f64.format.order x y == some .eq) = decide (x = y) := fun x y hx hy => by
    rw [cn_order hx hy]
    by_cases c : x = y
    · rw [decide_eq_true c, cmp_eq (by rw [c])]; rfl
    · rw [decide_eq_false c]
      rcases Int.lt_trichotomy (sv x) (sv y) with d | d | d
      · rw [cmp_lt d]; rfl
      · exact absurd (cn_inj hx hy d) c
      · rw [cmp_gt d]; rfl
  rw [key _ _ c1 cn_pi, key _ _ c2 cn_ni]
end Go.Proofs.YtilffgmekeeohaaDoor
