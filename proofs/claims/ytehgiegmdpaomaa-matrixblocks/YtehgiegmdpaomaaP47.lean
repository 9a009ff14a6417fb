
/- Products of matrices side by side and one above another: plain but for the calls. -/
import Derived.Test.YtehgiegmdpaomaaP46
import Derived.Test.YtehgiegmdpaomaaP41
namespace Go.Proofs.Ytehgiegmdpaomaa
open Go.RowKit Go.IntWalk

/-- A dot product hangs on canonical numbers only. -/
theorem dotM_both {f g f2 g2 : Nat → Nat} (n : Nat) (h1 : ∀ k, k < n → canonOf (f k) = canonOf (f2 k)) (h2 : ∀ k, k < n → canonOf (g k) = canonOf (g2 k)) : dotM f g n = dotM f2 g2 n := by
  induction n with
  | zero => rfl
  | succ n ih => rw [dotM, dotM, ih (fun k hk => h1 k (by omega)) (fun k hk => h2 k (by omega)), h1 n (by omega), h2 n (by omega)]
/-- What is told with no error is a good matrix. -/
theorem res_gd {r c : Nat} {v : Nat → Nat → Nat} {W : World} {X0 X1 : Int} {X2 : Option Addr} {X3 X4 : Nat} (hr : r ≤ 12) (hc : c ≤ 12) (h : ResM 0 r c v W X0 X1 X2 X3 X4) : X0 = (r : Int) ∧ X1 = (c : Int) ∧ X3 = r * c ∧ ∃ o : Nat → Nat, Gd W r c X2 X3 X4 o ∧ ∀ i j, i < r → j < c → canonOf (o (i * c + j)) = v i j := by
  rcases h with ⟨_, h1, h2, h3, h4, g, o, h5, h6, h7, h8⟩ | ⟨h, _⟩
  · subst h3
    exact ⟨h1, h2, rfl, o, ⟨hr, hc, rfl, h6, h8⟩, h7⟩
  · exact absurd rfl h
theorem mulE_zero {r c r2 c2 : Nat} {v : Nat → Nat → Nat} (h : mulE r c r2 c2 v = 0) : c = r2 ∧ finV r c2 v = true := by
  unfold mulE at h
  by_cases h1 : c = r2
  · rw [if_neg (fun q => q h1)] at h
    by_cases h2 : finV r c2 v = true
    · exact ⟨h1, h2⟩
    · rw [if_neg h2] at h
      exact absurd h (by decide)
  · rw [if_pos h1] at h
    exact absurd h (by decide)
theorem mulE_of {r c c2 : Nat} {v : Nat → Nat → Nat} (h : finV r c2 v = true) : mulE r c c c2 v = 0 := by
  unfold mulE
  rw [if_neg (fun q => q rfl), if_pos h]
/-- Two side by side, two one above another. -/
def sideV (c1 : Nat) (u v : Nat → Nat → Nat) (i j : Nat) : Nat := if j < c1 then u i j else v i (j - c1)
def overV (r1 : Nat) (u v : Nat → Nat → Nat) (i j : Nat) : Nat := if i < r1 then u i j else v (i - r1) j
/-- The numbers of a product. -/
def prdF (f g : Nat → Nat) (c c2 : Nat) (i j : Nat) : Nat := dotM (fun k => f (i * c + k)) (fun k => g (k * c2 + j)) c
theorem fin_side {r c1 c2 : Nat} {u v : Nat → Nat → Nat} (h1 : finV r c1 u = true) (h2 : finV r c2 v = true) : finV r (c1 + c2) (sideV c1 u v) = true := by
  rw [finV_iff] at h1 h2 ⊢
  intro i j hi hj
  unfold sideV
  by_cases h : j < c1
  · rw [if_pos h]; exact h1 i j hi h
  · rw [if_neg h]; exact h2 i (j - c1) hi (by omega)
theorem fin_over {r1 r2 c : Nat} {u v : Nat → Nat → Nat} (h1 : finV r1 c u = true) (h2 : finV r2 c v = true) : finV (r1 + r2) c (overV r1 u v) = true := by
  rw [finV_iff] at h1 h2 ⊢
  intro i j hi hj
  unfold overV
  by_cases h : i < r1
  · rw [if_pos h]; exact h1 i j h hj
  · rw [if_neg h]; exact h2 (i - r1) j (by omega) hj
theorem prd_side {f G H o : Nat → Nat} {c c1 c2 : Nat} (hv : ∀ k j, k < c → j < c1 + c2 → canonOf (o (k * (c1 + c2) + j)) = if j < c1 then canonOf (G (k * c1 + j)) else canonOf (H (k * c2 + (j - c1)))) (i j : Nat) (hj : j < c1 + c2) : prdF f o c (c1 + c2) i j = sideV c1 (prdF f G c c1) (prdF f H c c2) i j := by
  unfold sideV prdF
  by_cases h : j < c1
  · rw [if_pos h]
    exact dotM_both c (fun _ _ => rfl) (fun k hk => by rw [hv k j hk hj, if_pos h])
  · rw [if_neg h]
    exact dotM_both c (fun _ _ => rfl) (fun k hk => by rw [hv k j hk hj, if_neg h])
theorem prd_over {F G o g : Nat → Nat} {r1 r2 c c2 : Nat} (hv : ∀ i k, i < r1 + r2 → k < c → canonOf (o (i * c + k)) = if i < r1 then canonOf (F (i * c + k)) else canonOf (G ((i - r1) * c + k))) (i j : Nat) (hi : i < r1 + r2) : prdF o g c c2 i j = overV r1 (prdF F g c c2) (prdF G g c c2) i j := by
  unfold overV prdF
  by_cases h : i < r1
  · rw [if_pos h]
    exact dotM_both c (fun k hk => by rw [hv i k hi hk, if_pos h]) (fun _ _ => rfl)
  · rw [if_neg h]
    exact dotM_both c (fun k hk => by rw [hv i k hi hk, if_neg h]) (fun _ _ => rfl)
/-- What is told side by side, of two told. -/
theorem Beside_res {r c c2 : Nat} {v v2 : Nat → Nat → Nat} {W : World} {X0 X1 Y0 Y1 : Int} {X2 Y2 : Option Addr} {X3 X4 Y3 Y4 : Nat} (hr : r ≤ 12) (hs : c + c2 ≤ 12) (ha : ResM 0 r c v W X0 X1 X2 X3 X4) (hb : ResM 0 r c2 v2 W Y0 Y1 Y2 Y3 Y4) :
    Calls Try.prog 9 #[.agg #[.int .i64 X0, .int .i64 X1, .slice X2 X3 X4], .agg #[.int .i64 Y0, .int .i64 Y1, .slice Y2 Y3 Y4]] W fun e w' => (∃ Z0 Z1 Z2 Z3 Z4, e = .returned (.tuple #[.agg #[.int .i64 Z0, .int .i64 Z1, .slice Z2 Z3 Z4], .int .i64 0]) ∧ ResM 0 r (c + c2) (sideV c v v2) w' Z0 Z1 Z2 Z3 Z4) ∧ Below W.heap.size W w' := by
  obtain ⟨rfl, rfl, rfl, o, hg, ho⟩ := res_gd hr (by omega) ha
  obtain ⟨rfl, rfl, rfl, o2, hg2, ho2⟩ := res_gd hr (by omega) hb
  refine (Beside_ok r c c2 _ _ X2 Y2 X4 Y4 o o2 W hg hg2 hs).mono ?_
  rintro e w' ⟨⟨g, z, rfl, hf, hv⟩, hbb⟩
  refine ⟨⟨_, _, _, _, _, rfl, res_fin hf (fun i j hi hj => ?_) (fun i j hi hj => ?_)⟩, hbb⟩
  · rw [hv i j hi hj]
    unfold sideV
    by_cases q : j < c
    · rw [if_pos q, if_pos q]; exact ho i j hi q
    · rw [if_neg q, if_neg q]; exact ho2 i (j - c) hi (by omega)
  · rw [hv i j hi hj]
    by_cases q : j < c
    · rw [if_pos q]; exact (gd_fin hg _ (place_lt hi q)).2
    · rw [if_neg q]; exact (gd_fin hg2 _ (place_lt hi (by omega))).2
/-- What is told one above another, of two told. -/
theorem Stack_res {r r2 c : Nat} {v v2 : Nat → Nat → Nat} {W : World} {X0 X1 Y0 Y1 : Int} {X2 Y2 : Option Addr} {X3 X4 Y3 Y4 : Nat} (hc : c ≤ 12) (hs : r + r2 ≤ 12) (ha : ResM 0 r c v W X0 X1 X2 X3 X4) (hb : ResM 0 r2 c v2 W Y0 Y1 Y2 Y3 Y4) :
    Calls Try.prog 10 #[.agg #[.int .i64 X0, .int .i64 X1, .slice X2 X3 X4], .agg #[.int .i64 Y0, .int .i64 Y1, .slice Y2 Y3 Y4]] W fun e w' => (∃ Z0 Z1 Z2 Z3 Z4, e = .returned (.tuple #[.agg #[.int .i64 Z0, .int .i64 Z1, .slice Z2 Z3 Z4], .int .i64 0]) ∧ ResM 0 (r + r2) c (overV r v v2) w' Z0 Z1 Z2 Z3 Z4) ∧ Below W.heap.size W w' := by
  obtain ⟨rfl, rfl, rfl, o, hg, ho⟩ := res_gd (by omega) hc ha
  obtain ⟨rfl, rfl, rfl, o2, hg2, ho2⟩ := res_gd (by omega) hc hb
  refine (Stack_ok r c r2 _ _ X2 Y2 X4 Y4 o o2 W hg hg2 hs).mono ?_
  rintro e w' ⟨⟨g, z, rfl, hf, hv⟩, hbb⟩
  refine ⟨⟨_, _, _, _, _, rfl, res_fin hf (fun i j hi hj => ?_) (fun i j hi hj => ?_)⟩, hbb⟩
  · rw [hv i j hi hj]
    unfold overV
    by_cases q : i < r
    · rw [if_pos q, if_pos q]; exact ho i j q hj
    · rw [if_neg q, if_neg q]; exact ho2 (i - r) j (by omega) hj
  · rw [hv i j hi hj]
    by_cases q : i < r
    · rw [if_pos q]; exact (gd_fin hg _ (place_lt q hj)).2
    · rw [if_neg q]; exact (gd_fin hg2 _ (place_lt (by omega) hj)).2
/-- A product with two side by side, when both products are finite. -/
theorem Mul_side {r c c1 c2 n : Nat} {sa : Option Addr} {ka : Nat} {f G H : Nat → Nat} {W : World} {Y0 Y1 : Int} {Y2 : Option Addr} {Y3 Y4 : Nat} (ha : Gd W r c sa n ka f) (hs : c1 + c2 ≤ 12) (hb : ResM 0 c (c1 + c2) (sideV c1 (fun i j => canonOf (G (i * c1 + j))) (fun i j => canonOf (H (i * c2 + j)))) W Y0 Y1 Y2 Y3 Y4) (h1 : finV r c1 (prdF f G c c1) = true) (h2 : finV r c2 (prdF f H c c2) = true) :
    Calls Try.prog 14 #[.agg #[.int .i64 r, .int .i64 c, .slice sa n ka], .agg #[.int .i64 Y0, .int .i64 Y1, .slice Y2 Y3 Y4]] W fun e w' => (∃ Z0 Z1 Z2 Z3 Z4, e = .returned (.tuple #[.agg #[.int .i64 Z0, .int .i64 Z1, .slice Z2 Z3 Z4], .int .i64 0]) ∧ ResM 0 r (c1 + c2) (sideV c1 (prdF f G c c1) (prdF f H c c2)) w' Z0 Z1 Z2 Z3 Z4) ∧ Below W.heap.size W w' := by
  obtain ⟨rfl, rfl, rfl, o, hg, ho⟩ := res_gd ha.2.1 hs hb
  have := Mul_res r c c (c1 + c2) _ _ sa Y2 ka Y4 f o (sideV c1 (prdF f G c c1) (prdF f H c c2)) W ha hg (fun _ i j _ hj => prd_side (fun k l hk hl => ho k l hk hl) i j hj)
  rw [mulE_of (fin_side h1 h2)] at this
  exact this
/-- A product of two one above another, when both products are finite. -/
theorem Mul_over {r1 r2 c c2 n : Nat} {sb : Option Addr} {kb : Nat} {F G g : Nat → Nat} {W : World} {Y0 Y1 : Int} {Y2 : Option Addr} {Y3 Y4 : Nat} (hb : Gd W c c2 sb n kb g) (hs : r1 + r2 ≤ 12) (ha : ResM 0 (r1 + r2) c (overV r1 (fun i j => canonOf (F (i * c + j))) (fun i j => canonOf (G (i * c + j)))) W Y0 Y1 Y2 Y3 Y4) (h1 : finV r1 c2 (prdF F g c c2) = true) (h2 : finV r2 c2 (prdF G g c c2) = true) :
    Calls Try.prog 14 #[.agg #[.int .i64 Y0, .int .i64 Y1, .slice Y2 Y3 Y4], .agg #[.int .i64 c, .int .i64 c2, .slice sb n kb]] W fun e w' => (∃ Z0 Z1 Z2 Z3 Z4, e = .returned (.tuple #[.agg #[.int .i64 Z0, .int .i64 Z1, .slice Z2 Z3 Z4], .int .i64 0]) ∧ ResM 0 (r1 + r2) c2 (overV r1 (prdF F g c c2) (prdF G g c c2)) w' Z0 Z1 Z2 Z3 Z4) ∧ Below W.heap.size W w' := by
  obtain ⟨rfl, rfl, rfl, o, hg, ho⟩ := res_gd hs hb.1 ha
  have := Mul_res (r1 + r2) c c c2 _ _ Y2 sb Y4 kb o g (overV r1 (prdF F g c c2) (prdF G g c c2)) W hg hb (fun _ i j hi _ => prd_over (fun k l hk hl => ho k l hk hl) i j hi)
  rw [mulE_of (fin_over h1 h2)] at this
  exact this
end Go.Proofs.Ytehgiegmdpaomaa

namespace Go.Proofs.Ytehgiegmdpaomaa
open Go.RowKit Go.IntWalk

theorem gd_own {r c n : Nat} {sa : Option Addr} {ka : Nat} {xs : List Nat} {w : World} (h : FlM w sa n ka xs) (hz : chkM (r : Int) (c : Int) n xs = 0) : Gd w r c sa n ka (fun j => xs.getD j 0) := by
  obtain ⟨a, b, e1, e2, hg⟩ := gd_of h hz
  obtain rfl : r = a := by omega
  obtain rfl : c = b := by omega
  exact hg
/-- A block's result, its numbers by the whole's. -/
theorem Block_at {r c n i j a b : Nat} {sa : Option Addr} {ka : Nat} {xs : List Nat} {w : World} {I J A B : Int} (h : FlM w sa n ka xs) (hz : chkM r c n xs = 0) (hr : i + a ≤ r) (hc : j + b ≤ c) (hI : I = (i : Int)) (hJ : J = (j : Int)) (hA : A = (a : Int)) (hB : B = (b : Int)) :
    Calls Try.prog 8 #[.agg #[.int .i64 r, .int .i64 c, .slice sa n ka], .int .i64 I, .int .i64 J, .int .i64 A, .int .i64 B] w fun e w' => (∃ Z0 Z1 Z2 Z3 Z4, e = .returned (.tuple #[.agg #[.int .i64 Z0, .int .i64 Z1, .slice Z2 Z3 Z4], .int .i64 0]) ∧ ResM 0 a b (fun u v => canonOf (xs.getD ((i + u) * c + (j + v)) 0)) w' Z0 Z1 Z2 Z3 Z4) ∧ Below w.heap.size w w' := by
  subst hI hJ hA hB
  have hg := gd_own h hz
  refine (Block_ok r c n i j a b sa ka xs w h hz hr hc).mono ?_
  rintro e w' ⟨⟨g, o, rfl, hf, hv⟩, hbb⟩
  refine ⟨⟨_, _, _, _, _, rfl, res_fin hf (fun u v hu hv2 => by rw [hv u v hu hv2]) (fun u v hu hv2 => ?_)⟩, hbb⟩
  rw [hv u v hu hv2]
  exact (gd_fin hg _ (place_lt (by omega) (by omega))).2
theorem Block_in {r c n i j a b : Nat} {sa : Option Addr} {ka : Nat} {xs : List Nat} {w : World} {rx cx I J A B : Int} (hrx : rx = (r : Int)) (hcx : cx = (c : Int)) (h : FlM w sa n ka xs) (hz : chkM rx cx n xs = 0) (hr : i + a ≤ r) (hc : j + b ≤ c) (hI : I = (i : Int)) (hJ : J = (j : Int)) (hA : A = (a : Int)) (hB : B = (b : Int)) :
    Calls Try.prog 8 #[.agg #[.int .i64 rx, .int .i64 cx, .slice sa n ka], .int .i64 I, .int .i64 J, .int .i64 A, .int .i64 B] w fun e w' => (∃ Z0 Z1 Z2 Z3 Z4, e = .returned (.tuple #[.agg #[.int .i64 Z0, .int .i64 Z1, .slice Z2 Z3 Z4], .int .i64 0]) ∧ ResM 0 a b (fun u v => canonOf (xs.getD ((i + u) * c + (j + v)) 0)) w' Z0 Z1 Z2 Z3 Z4) ∧ Below w.heap.size w w' := by
  subst hrx hcx
  exact Block_at h hz hr hc hI hJ hA hB
theorem side_whole {r c K : Nat} {xs : List Nat} (i j : Nat) (_ : i < r) : sideV K (fun u v => canonOf (xs.getD ((0 + u) * c + (0 + v)) 0)) (fun u v => canonOf (xs.getD ((0 + u) * c + (K + v)) 0)) i j = canonOf (xs.getD (i * c + j) 0) := by
  unfold sideV
  by_cases h : j < K
  · rw [if_pos h]
    show canonOf (xs.getD ((0 + i) * c + (0 + j)) 0) = _
    rw [Nat.zero_add, Nat.zero_add]
  · rw [if_neg h]
    show canonOf (xs.getD ((0 + i) * c + (K + (j - K))) 0) = _
    rw [Nat.zero_add, show K + (j - K) = j by omega]
theorem over_whole {c K : Nat} {xs : List Nat} (i j : Nat) : overV K (fun u v => canonOf (xs.getD ((0 + u) * c + (0 + v)) 0)) (fun u v => canonOf (xs.getD ((K + u) * c + (0 + v)) 0)) i j = canonOf (xs.getD (i * c + j) 0) := by
  unfold overV
  by_cases h : i < K
  · rw [if_pos h]
    show canonOf (xs.getD ((0 + i) * c + (0 + j)) 0) = _
    rw [Nat.zero_add, Nat.zero_add]
  · rw [if_neg h]
    show canonOf (xs.getD ((K + (i - K)) * c + (0 + j)) 0) = _
    rw [Nat.zero_add, show K + (i - K) = i by omega]
/-- A result with the numbers of a matrix is like it. -/
theorem alike_own {r c n : Nat} {v : Nat → Nat → Nat} {W : World} {X0 X1 : Int} {X2 sa : Option Addr} {X3 X4 ka : Nat} {xs : List Nat} (hx : ResM 0 r c v W X0 X1 X2 X3 X4) (h : FlM W sa n ka xs) (hz : chkM r c n xs = 0) (hv : ∀ i j, i < r → j < c → v i j = canonOf (xs.getD (i * c + j) 0)) :
    Calls Try.prog 11 #[.agg #[.int .i64 X0, .int .i64 X1, .slice X2 X3 X4], .agg #[.int .i64 r, .int .i64 c, .slice sa n ka]] W fun e w' => e = .returned (.bool true) ∧ Below W.heap.size W w' := by
  obtain rfl := (gd_own h hz).2.2.1
  rcases hx with ⟨_, rfl, rfl, rfl, rfl, g, o, rfl, h6, h7, _⟩ | ⟨q, _⟩
  · refine alike_yes r c (some ⟨g, 0, none⟩) sa (r * c) (r * c) ka o (fun j => xs.getD j 0) W h6 h.fn (fun k hk => ?_)
    obtain ⟨q1, q2, q3⟩ := split_k hk
    have := (h7 _ _ q1 q2).trans (hv _ _ q1 q2)
    rw [q3] at this
    exact this
  · exact absurd rfl q
theorem alike_in {r c n : Nat} {v : Nat → Nat → Nat} {W : World} {rx cx X0 X1 : Int} {X2 sa : Option Addr} {X3 X4 ka : Nat} {xs : List Nat} (hrx : rx = (r : Int)) (hcx : cx = (c : Int)) (hx : ResM 0 r c v W X0 X1 X2 X3 X4) (h : FlM W sa n ka xs) (hz : chkM rx cx n xs = 0) (hv : ∀ i j, i < r → j < c → v i j = canonOf (xs.getD (i * c + j) 0)) :
    Calls Try.prog 11 #[.agg #[.int .i64 X0, .int .i64 X1, .slice X2 X3 X4], .agg #[.int .i64 rx, .int .i64 cx, .slice sa n ka]] W fun e w' => e = .returned (.bool true) ∧ Below W.heap.size W w' := by
  subst hrx hcx
  exact alike_own hx h hz hv
/-- Ordered back. -/
theorem Order_back {r pc : Nat} {xs : List Nat} {ps : List Int} {W : World} {X0 X1 : Int} {X2 pa : Option Addr} {X3 X4 : Nat} (hr : r ≤ 12) (hx : ResM 0 r r (ordV xs ps r) W X0 X1 X2 X3 X4) (ho : ordB r ps r = true) (hp : I64At W pa r (bkL ps r)) :
    Calls Try.prog 12 #[.agg #[.int .i64 X0, .int .i64 X1, .slice X2 X3 X4], .slice pa r pc] W fun e w' => (∃ Z0 Z1 Z2 Z3 Z4, e = .returned (.tuple #[.agg #[.int .i64 Z0, .int .i64 Z1, .slice Z2 Z3 Z4], .int .i64 0]) ∧ ResM 0 r r (fun u v => canonOf (xs.getD (u * r + v) 0)) w' Z0 Z1 Z2 Z3 Z4) ∧ Below W.heap.size W w' := by
  obtain ⟨rfl, rfl, rfl, o, hg, hv⟩ := res_gd hr hr hx
  refine (Order_ok r _ X4 pc X2 pa o (bkL ps r) W hg hp (bk_ord ho)).mono ?_
  rintro e w' ⟨⟨g, z, rfl, hf, hz⟩, hbb⟩
  refine ⟨⟨_, _, _, _, _, rfl, res_fin hf (fun u v hu hw => ?_) (fun u v hu hw => ?_)⟩, hbb⟩
  · rw [hz u v hu hw, hv _ _ (bk_back ho u hu).2 (bk_back ho v hw).2]
    unfold ordV
    rw [(bk_back ho u hu).1, (bk_back ho v hw).1]
  · rw [hz u v hu hw]
    exact (gd_fin hg _ (place_lt (bk_back ho u hu).2 (bk_back ho v hw).2)).2
end Go.Proofs.Ytehgiegmdpaomaa
