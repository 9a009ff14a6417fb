
/- matrix: products and Sandwich with the unit matrix. -/
import Derived.Test.YtfkpdjieiifldabP46
namespace Go.Proofs.Ytfkpdjieiifldab
open Go.RowKit Go.IntWalk

theorem expq_fin {x : Nat} (fx : x % 9223372036854775808 < 9218868437227405312) : (x / 4503599627370496 % 2048 == 2047) = false := by
  rw [beq_eq_false_iff_ne]
  omega
theorem plusQ_twice (x : Nat) : plusQ (plusQ x) = plusQ x := by
  unfold plusQ
  by_cases c : x = 9223372036854775808
  · rw [if_pos c]; rfl
  · rw [if_neg c, if_neg c]
theorem eye_can (n i k : Nat) (hk : k < n) : canonOf (eyeF n (i * n + k)) = if k = i then 4607182418800017408 else 0 := by
  rw [eye_at hk]
  by_cases c : k = i
  · rw [if_pos c, if_pos c.symm]; decide
  · rw [if_neg c, if_neg (fun h => c h.symm)]; decide
theorem eye_canR (n j k : Nat) (hj : j < n) : canonOf (eyeF n (k * n + j)) = if k = j then 4607182418800017408 else 0 := by
  rw [eye_at hj]
  split <;> decide
/-- Numbers that are those of a matrix with noughts +0: finite. -/
theorem plus_ans {W : World} {r c n : Nat} {sa : Option Addr} {ka g : Nat} {f o : Nat → Nat} (ha : Gd W r c sa n ka f) (h : ∀ k, k < r * c → canonOf (o k) = plusQ (f k)) : AnsM r c (r * c) g o = .tuple #[.agg #[.int .i64 r, .int .i64 c, .slice (some ⟨g, 0, none⟩) (r * c) (r * c)], .int .i64 0] ∧ ∀ k, k < r * c → canonOf (o k) = canonOf (plusQ (f k)) := by
  have key : ∀ k, k < r * c → plusQ (f k) < 18446744073709551616 ∧ plusQ (f k) % 9223372036854775808 < 9218868437227405312 := fun k hk => by
    have hk2 : k < n := by rw [ha.2.2.1]; exact hk
    have := plusQ_fin (fn_lt ha.2.2.2.1 k hk2) (fin_exp (fn_lt ha.2.2.2.1 k hk2) ((finF_iff _ _).1 ha.2.2.2.2 k hk2))
    exact ⟨this.1, this.2.1⟩
  have hf : finF (r * c) o = true := finF_of (fun k hk => by
    unfold expOf
    rw [h k hk]
    exact expq_fin (key k hk).2)
  refine ⟨?_, fun k hk => by rw [h k hk, canq_fin (key k hk).2]⟩
  unfold AnsM MV
  rw [if_pos hf, if_pos hf]
theorem gd_fin {W : World} {r c n : Nat} {sa : Option Addr} {ka : Nat} {f : Nat → Nat} (ha : Gd W r c sa n ka f) (k : Nat) (hk : k < r * c) : f k < 18446744073709551616 ∧ f k % 9223372036854775808 < 9218868437227405312 := by
  have hk2 : k < n := by rw [ha.2.2.1]; exact hk
  exact ⟨fn_lt ha.2.2.2.1 k hk2, fin_exp (fn_lt ha.2.2.2.1 k hk2) ((finF_iff _ _).1 ha.2.2.2.2 k hk2)⟩
theorem Mul_eyeL (r c n : Nat) (sa : Option Addr) (ka g1 : Nat) (f : Nat → Nat) (w : World) (ho : Gd w r r (some ⟨g1, 0, none⟩) (r * r) (r * r) (eyeF r)) (ha : Gd w r c sa n ka f) :
    Calls Try.prog 16 #[.agg #[.int .i64 r, .int .i64 r, .slice (some ⟨g1, 0, none⟩) (r * r) (r * r)], .agg #[.int .i64 r, .int .i64 c, .slice sa n ka]] w fun e w' => (∃ (g : Nat) (o : Nat → Nat), e = .returned (.tuple #[.agg #[.int .i64 r, .int .i64 c, .slice (some ⟨g, 0, none⟩) (r * c) (r * c)], .int .i64 0]) ∧ FnM w' (some ⟨g, 0, none⟩) (r * c) (r * c) o ∧ ∀ k, k < r * c → canonOf (o k) = canonOf (plusQ (f k))) ∧ Below w.heap.size w w' := by
  refine (Mul_ok r r r c _ n _ sa _ ka _ f w ho ha rfl).mono ?_
  rintro e w' ⟨⟨g, o, rfl, hf, hv⟩, hb⟩
  obtain ⟨h1, h2⟩ := plus_ans (g := g) (o := o) ha (fun k hk => by
    obtain ⟨q1, q2, q3⟩ := split_k hk
    have := hv _ _ q1 q2
    rw [q3, dot_unit _ _ r (k / c) q1 (fun t ht => eye_can r (k / c) t ht) (fun t ht => gd_fin ha _ (place_lt ht q2)), q3] at this
    exact this)
  exact ⟨⟨g, o, by rw [h1], hf, h2⟩, hb⟩
theorem Mul_eyeR (r c n : Nat) (sa : Option Addr) (ka g1 : Nat) (f : Nat → Nat) (w : World) (ha : Gd w r c sa n ka f) (ho : Gd w c c (some ⟨g1, 0, none⟩) (c * c) (c * c) (eyeF c)) :
    Calls Try.prog 16 #[.agg #[.int .i64 r, .int .i64 c, .slice sa n ka], .agg #[.int .i64 c, .int .i64 c, .slice (some ⟨g1, 0, none⟩) (c * c) (c * c)]] w fun e w' => (∃ (g : Nat) (o : Nat → Nat), e = .returned (.tuple #[.agg #[.int .i64 r, .int .i64 c, .slice (some ⟨g, 0, none⟩) (r * c) (r * c)], .int .i64 0]) ∧ FnM w' (some ⟨g, 0, none⟩) (r * c) (r * c) o ∧ ∀ k, k < r * c → canonOf (o k) = canonOf (plusQ (f k))) ∧ Below w.heap.size w w' := by
  refine (Mul_ok r c c c n _ sa _ ka _ f _ w ha ho rfl).mono ?_
  rintro e w' ⟨⟨g, o, rfl, hf, hv⟩, hb⟩
  obtain ⟨h1, h2⟩ := plus_ans (g := g) (o := o) ha (fun k hk => by
    obtain ⟨q1, q2, q3⟩ := split_k hk
    have := hv _ _ q1 q2
    rw [q3, dotM_comm, dot_unit _ _ c (k % c) q2 (fun t _ => eye_canR c (k % c) t q2) (fun t ht => gd_fin ha _ (place_lt q1 ht)), q3] at this
    exact this)
  exact ⟨⟨g, o, by rw [h1], hf, h2⟩, hb⟩
theorem Sand_eye (r n : Nat) (sa : Option Addr) (ka g1 : Nat) (f : Nat → Nat) (w : World) (ho : Gd w r r (some ⟨g1, 0, none⟩) (r * r) (r * r) (eyeF r)) (ha : Gd w r r sa n ka f) (hs : ∀ i j, i < r → j < r → canonOf (f (i * r + j)) = canonOf (f (j * r + i))) :
    Calls Try.prog 20 #[.agg #[.int .i64 r, .int .i64 r, .slice (some ⟨g1, 0, none⟩) (r * r) (r * r)], .agg #[.int .i64 r, .int .i64 r, .slice sa n ka]] w fun e w' => (∃ (g : Nat) (o : Nat → Nat), e = .returned (.tuple #[.agg #[.int .i64 r, .int .i64 r, .slice (some ⟨g, 0, none⟩) (r * r) (r * r)], .int .i64 0]) ∧ FnM w' (some ⟨g, 0, none⟩) (r * r) (r * r) o ∧ ∀ k, k < r * r → canonOf (o k) = canonOf (plusQ (f k))) ∧ Below w.heap.size w w' := by
  refine (Sand_ok r r _ n _ sa _ ka _ f w ho ha).mono ?_
  rintro e w' ⟨⟨g, o, rfl, hf, hsym, o2, h2, h3⟩, hb⟩
  have k2 : ∀ i j, i < r → j < r → o2 (i * r + j) = plusQ (f (i * r + j)) := fun i j hi hj => by
    have := h2 i j hi hj
    rw [dot_unit _ _ r i hi (fun t ht => eye_can r i t ht) (fun t ht => gd_fin ha _ (place_lt ht hj))] at this
    have hfin := plusQ_fin (gd_fin ha _ (place_lt hi hj)).1 (gd_fin ha _ (place_lt hi hj)).2
    exact canon_val this (by omega)
  have k3 : ∀ i j, i < r → j ≤ i → canonOf (o (i * r + j)) = plusQ (f (i * r + j)) := fun i j hi hj => by
    have hj2 : j < r := by omega
    rw [h3 i j hi hj, dotM_comm, dot_unit _ _ r j hj2 (fun t ht => eye_can r j t ht) (fun t ht => by
      rw [k2 i t hi ht]
      have := plusQ_fin (gd_fin ha _ (place_lt hi ht)).1 (gd_fin ha _ (place_lt hi ht)).2
      exact ⟨this.1, this.2.1⟩), k2 i j hi hj2, plusQ_twice]
  have hs2 : ∀ i j, i < r → j < r → f (i * r + j) = f (j * r + i) := fun i j hi hj => by
    have := hs i j hi hj
    rw [canq_fin (gd_fin ha _ (place_lt hi hj)).2, canq_fin (gd_fin ha _ (place_lt hj hi)).2] at this
    exact this
  obtain ⟨h1, h4⟩ := plus_ans (g := g) (o := o) ha (fun k hk => by
    obtain ⟨q1, q2, q3⟩ := split_k hk
    rw [← q3]
    by_cases c : k % r ≤ k / r
    · exact k3 _ _ q1 c
    · rw [hsym _ _ q1 q2, k3 _ _ q2 (by omega), hs2 _ _ q1 q2])
  exact ⟨⟨g, o, by rw [h1], hf, h4⟩, hb⟩
end Go.Proofs.Ytfkpdjieiifldab
