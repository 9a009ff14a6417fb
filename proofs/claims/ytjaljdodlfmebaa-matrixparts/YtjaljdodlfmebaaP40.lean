
/- What MatrixPlaces wants besides: First of two, If, same; the errors told alike. -/
import Derived.Test.YtjaljdodlfmebaaP37
import Derived.Deep.Cut
import Derived.Test.YtjaljdodlfmebaaP38
namespace Go.Proofs.Ytjaljdodlfmebaa
open Go.RowKit Go.IntWalk

def I2 (a b : Int) : Obj := .cells #[.int .i64 a, .int .i64 b] 3
theorem First_two (b : Nat) (x y : Int) (w : World) (h : w.heap[b]? = some (I2 x y)) : Calls Try.prog 6 #[.slice (some ⟨b, 0, none⟩) 2 2] w fun e w' => e = .returned (.int .i64 (firstL [x, y])) ∧ w' = w :=
  First_any b 2 [x, y] rfl (by decide) w (fun j hj => by
    unfold I2 at h
    match j, hj with
    | 0, _ => simp [World.cell?, h]
    | 1, _ => simp [World.cell?, h])
theorem finB_exp (x : Nat) (hx : x < 18446744073709551616) : (!(expOf x == 2047)) = finB x := by
  unfold finB
  by_cases h : x % 9223372036854775808 < 9218868437227405312
  · rw [decide_eq_true h]
    unfold expOf
    rw [canq_fin h, expq_fin h]
    rfl
  · rw [decide_eq_false h]
    cases hc : (expOf x == 2047) with
    | true => rfl
    | false => exact absurd (fin_exp hx hc) h
theorem f2 (a b : Int) : firstL [a, b] = if a = 0 then b else a := by
  unfold firstL
  by_cases h : a = 0
  · rw [if_pos h, if_pos h]
    unfold firstL
    by_cases h2 : b = 0
    · rw [if_pos h2]; exact h2.symm
    · rw [if_neg h2]
  · rw [if_neg h, if_neg h]
def outE (i r : Int) : Int := if i < 0 ∨ r ≤ i then 1 else 0
theorem row_span {r c i : Int} {n : Nat} {xs : List Nat} : spanE (chkM r c n xs) r c i 0 1 0 = firstL [chkM r c n xs, outE i r] := by
  rw [f2]
  unfold spanE outE
  by_cases hE : chkM r c n xs = 0
  · obtain ⟨R, C, rfl, rfl, h1, h2, _, _⟩ := chk_some hE
    rw [if_neg (fun h => h hE), if_pos hE]
    by_cases h : i < 0 ∨ (R : Int) ≤ i
    · rw [if_pos h, if_pos (by omega)]
    · rw [if_neg h, if_neg (by omega)]
  · rw [if_pos hE, if_neg hE]
theorem col_span {r c j : Int} {n : Nat} {xs : List Nat} : spanE (chkM r c n xs) r c 0 j 0 1 = firstL [chkM r c n xs, outE j c] := by
  rw [f2]
  unfold spanE outE
  by_cases hE : chkM r c n xs = 0
  · obtain ⟨R, C, rfl, rfl, h1, h2, _, _⟩ := chk_some hE
    rw [if_neg (fun h => h hE), if_pos hE]
    by_cases h : j < 0 ∨ (C : Int) ≤ j
    · rw [if_pos h, if_pos (by omega)]
    · rw [if_neg h, if_neg (by omega)]
  · rw [if_pos hE, if_neg hE]
theorem both_span {r c i j : Int} {n : Nat} {xs : List Nat} : spanE (chkM r c n xs) r c i j 1 1 = firstL [firstL [chkM r c n xs, outE i r], firstL [chkM r c n xs, outE j c]] := by
  rw [f2, f2, f2]
  unfold spanE outE
  by_cases hE : chkM r c n xs = 0
  · obtain ⟨R, C, rfl, rfl, h1, h2, _, _⟩ := chk_some hE
    rw [if_neg (fun h => h hE), if_pos hE, if_pos hE]
    by_cases h : i < 0 ∨ (R : Int) ≤ i
    · rw [if_pos h, if_pos (by omega), if_neg (by decide)]
    · rw [if_neg h, if_pos rfl]
      by_cases h3 : j < 0 ∨ (C : Int) ≤ j
      · rw [if_pos h3, if_pos (by omega)]
      · rw [if_neg h3, if_neg (by omega)]
  · rw [if_pos hE, if_neg hE, if_neg hE]
theorem with_first (F : Int) (x : Nat) : withE F x = firstL [F, if finB x = true then 0 else 4] := by
  rw [f2]
  unfold withE
  by_cases h : F = 0
  · rw [if_neg (fun hc => hc h), if_pos h]
  · rw [if_pos h, if_neg h]
theorem zero_both {E a b : Int} (h : firstL [firstL [E, a], firstL [E, b]] = 0) : firstL [E, a] = 0 ∧ firstL [E, b] = 0 := by
  rw [f2] at h
  by_cases h1 : firstL [E, a] = 0
  · rw [if_pos h1] at h; exact ⟨h1, h⟩
  · rw [if_neg h1] at h; exact absurd h h1
theorem with_zero {F : Int} {x : Nat} (h : withE F x = 0) : F = 0 ∧ finB x = true := by
  unfold withE at h
  by_cases hF : F = 0
  · rw [if_neg (fun hc => hc hF)] at h
    cases hc : finB x with
    | true => exact ⟨hF, rfl⟩
    | false => rw [hc, if_neg (by decide)] at h; cases h
  · rw [if_pos hF] at h; exact absurd h hF
end Go.Proofs.Ytjaljdodlfmebaa

namespace Go.Proofs.Ytjaljdodlfmebaa
open Go.RowKit Go.IntWalk

/-- The numbers of a multiple. -/
def sclV (xs : List Nat) (s c : Nat) (i j : Nat) : Nat := caf .mul (canonOf (xs.getD (i * c + j) 0)) (canonOf s)
def sclT (rx cx : Int) (n : Nat) (xs : List Nat) (s : Nat) : Int := if withE (chkM rx cx n xs) s = 0 then (if finV rx.toNat cx.toNat (sclV xs s cx.toNat) = true then 0 else 5) else withE (chkM rx cx n xs) s
theorem fin_of {s : Nat} (h : finB s = true) : s % 9223372036854775808 < 9218868437227405312 := by unfold finB at h; exact of_decide_eq_true h
end Go.Proofs.Ytjaljdodlfmebaa

namespace Go.Proofs.Ytjaljdodlfmebaa
open Go.RowKit Go.IntWalk

/-- A variable that holds a list. -/
def SBox (sa : Option Addr) (n ka : Nat) : Obj := .cells #[.slice sa n ka] 26
theorem scell_of {w : World} {b : Nat} {sa : Option Addr} {n ka : Nat} (h : w.heap[b]? = some (SBox sa n ka)) : w.cell? ⟨b, 0, none⟩ = some (.slice sa n ka) := by
  unfold SBox at h
  simp [World.cell?, h]
theorem lst_gd {w : World} {sa : Option Addr} {n ka : Nat} {xs : List Nat} (h : FlM w sa n ka xs) (he : lstE n xs = 0) : n ≤ 12 ∧ FnM w sa n ka (fun j => xs.getD j 0) ∧ ∀ k, k < n → xs.getD k 0 < 18446744073709551616 ∧ xs.getD k 0 % 9223372036854775808 < 9218868437227405312 := by
  obtain ⟨h1, h2⟩ := lst_zero he
  refine ⟨h1, h.fn, fun k hk => ?_⟩
  have hl := fn_lt h.fn k hk
  refine ⟨hl, fin_exp hl ?_⟩
  have := (finF_iff n (fun j => xs.getD j 0)).1 (fin_get h.1 h2) k hk
  exact this
/-- The numbers of an outer product. -/
def outV (xs ys : List Nat) (i j : Nat) : Nat := caf .mul (canonOf (xs.getD i 0)) (canonOf (ys.getD j 0))
def outT (n : Nat) (xs : List Nat) (m : Nat) (ys : List Nat) : Int := if first2 (lstE n xs) (lstE m ys) = 0 then (if finV n m (outV xs ys) = true then 0 else 5) else first2 (lstE n xs) (lstE m ys)
theorem finB_canon (x : Nat) : finB (canonOf x) = finB x := by
  unfold finB canonOf
  by_cases h : 9218868437227405312 < x % 9223372036854775808
  · rw [if_pos h, decide_eq_false (by decide), decide_eq_false (by omega)]
  · rw [if_neg h]
theorem canon_fin {x : Nat} (h : finB x = true) : canonOf x = x := by
  have := fin_of h
  unfold canonOf
  rw [if_neg (by omega)]
def eqE (n m : Nat) : Int := if n = m then 0 else 3
/-- What is wrong with two lists that are to be multiplied. -/
def dotE (n : Nat) (xs : List Nat) (m : Nat) (ys : List Nat) : Int := first2 (first2 (lstE n xs) (lstE m ys)) (eqE n m)
def dotW (xs ys : List Nat) (n : Nat) : Nat := dotM (fun k => xs.getD k 0) (fun k => ys.getD k 0) n
def dotT (n : Nat) (xs : List Nat) (m : Nat) (ys : List Nat) : Int := if dotE n xs m ys = 0 then (if finB (dotW xs ys n) = true then 0 else 5) else dotE n xs m ys
def dotD (n : Nat) (xs : List Nat) (m : Nat) (ys : List Nat) : Nat := if dotT n xs m ys = 0 then dotW xs ys n else 0
end Go.Proofs.Ytjaljdodlfmebaa

namespace Go.Proofs.Ytjaljdodlfmebaa
open Go.RowKit Go.IntWalk

end Go.Proofs.Ytjaljdodlfmebaa

namespace Go.Proofs.Ytjaljdodlfmebaa
open Go.RowKit Go.IntWalk

set_option maxRecDepth 4000 in
set_option maxHeartbeats 2000000 in
theorem rTrans_ok (r c n : Nat) (sa : Option Addr) (ka : Nat) (f : Nat → Nat) (w : World) (ha : Gd w r c sa n ka f) :
    Calls Try.prog 8 #[.agg #[.int .i64 r, .int .i64 c, .slice sa n ka]] w fun e w' => (∃ (g : Nat) (o : Nat → Nat), e = .returned (.agg #[.int .i64 c, .int .i64 r, .slice (some ⟨g, 0, none⟩) (c * r) (c * r)]) ∧ FnM w' (some ⟨g, 0, none⟩) (c * r) (c * r) o ∧ ∀ i j, i < c → j < r → o (i * r + j) = f (j * c + i)) ∧ Below w.heap.size w w' := by
  obtain ⟨t1, t2, t3, t4⟩ := two_b w (MBox r c sa n ka) (MBox 0 0 none 0 0)
  have l1 := ha.1
  have l2 := ha.2.1
  have HRC : Hid (r ≤ 12 ∧ c ≤ 12) := ⟨l1, l2⟩
  have HAT : Hid (∀ W i j, Below w.heap.size w W → i < r → j < c → Calls Try.prog 26 #[.agg #[.int .i64 r, .int .i64 c, .slice sa n ka], .int .i64 (i : Nat), .int .i64 (j : Nat)] W fun e w' => e = .returned (.float .f64 (f (i * c + j))) ∧ Below W.heap.size W w') := fun W i j hW hi hj => rAt_fn r sa c n ka i j f W (ha.below hW).2.2.2.1 (by omega) (by omega) (by omega) (by rw [ha.2.2.1]; exact place_lt hi hj)
  have HXL : Hid (∀ i j, i < r → j < c → f (i * c + j) < 18446744073709551616) := fun i j hi hj => (gd_fin ha _ (place_lt hi hj)).1
  have HPUT0 : Hid (∀ W (g x i j : Nat) (o : Nat → Nat), W.rowIs g 52 (c * r) (fun k => .float .f64 (o k)) → i < c → j < r → Calls Try.prog 25 #[.agg #[.int .i64 c, .int .i64 r, .slice (some ⟨g, 0, none⟩) (c * r) (c * r)], .int .i64 (i : Nat), .int .i64 (j : Nat), .float .f64 x] W fun e w' => e = .returned (.tuple #[]) ∧ w' = (W.alloc (MBox c r (some ⟨g, 0, none⟩) (c * r) (c * r))).setCell ⟨g, i * r + j, none⟩ (.float .f64 x)) := fun W g x i j o hW hi hj => by
    have hk := place_lt hi hj
    exact Put_any c g r _ _ i j x _ W (hW.cell hk) (hW.frozen _) hW.lt (by omega) (by omega) (by omega) hk
  have HZ0 := hid (fun W => rRaw_any c r (by omega) (by omega) W)
  have hnn : n = c * r := by rw [ha.2.2.1, Nat.mul_comm]
  have HN144 : Hid (c * r ≤ 144) := Nat.mul_le_mul l2 l1
  obtain ⟨N, hN⟩ : ∃ p, Hid (c * r = p) := ⟨_, rfl⟩
  rw [hN.out] at HPUT0 HZ0 HN144 hnn
  rw [hN.out]
  subst hnn
  obtain ⟨V, hV⟩ : ∃ V, Hid ((w.alloc (MBox r c sa n ka)).alloc (MBox 0 0 none 0 0) = V) := ⟨_, rfl⟩
  rw [hV.out] at t1 t2 t3 t4
  have hV' := hV.out
  unfold MBox at hV'
  obtain ⟨g, hg⟩ : ∃ t, Hid (V.heap.size + 1 = t) := ⟨_, rfl⟩
  have HZ := hid (HZ0.out V)
  rw [hg.out] at HZ
  have HPUT := hid (fun W x i j o => HPUT0.out W g x i j o)
  clear HZ0 HPUT0
  obtain ⟨p0, hp0⟩ : ∃ t, Hid (w.heap.size = t) := ⟨_, rfl⟩
  obtain ⟨rb, hrb⟩ : ∃ t, Hid (p0 + 1 = t) := ⟨_, rfl⟩
  rw [hp0.out] at t1 t2
  rw [hrb.out] at t2
  have HT1 := hid t1
  have HT3 := hid t2
  have HT4 := hid t3
  have HT5 := hid t4
  have hp0' := hp0.out
  have hrb' := hrb.out
  obtain ⟨x0, x1, x2⟩ := mcells_of t1
  clear t1 t2 t3 t4 ha l1 l2
  have hst := fstoreM
  go_enter Try.func8, Try.ntmps8
  go_wp2_with fail
  refine HZ.out.mono ?_
  rintro e w1 ⟨rfl, h1, h2⟩
  have hal : Below w1.heap.size w1 (w1.alloc (MBox c r (some ⟨g, 0, none⟩) n n)) := (Below.refl _ _).alloc (Nat.le_refl _) _
  have hlt : g < w1.heap.size := h1.lt
  obtain ⟨mb, hmb⟩ : ∃ t, Hid (w1.heap.size = t) := ⟨_, rfl⟩
  have HFR : Hid (Fr5 w (w1.alloc (MBox c r (some ⟨g, 0, none⟩) n n)) p0 rb mb mb (MBox r c sa n ka) (MBox 0 0 none 0 0) (MBox c r (some ⟨g, 0, none⟩) n n) (MBox c r (some ⟨g, 0, none⟩) n n)) := by
    have q2 : (w1.alloc (MBox c r (some ⟨g, 0, none⟩) n n)).heap[mb]? = some (MBox c r (some ⟨g, 0, none⟩) n n) := by rw [← hmb.out]; exact nblkM _ _
    exact ⟨(HT4.out.trans (h2.mono HT4.out.size)).trans (hal.mono (Nat.le_trans HT4.out.size h2.size)), blkM (blkM HT1.out h2) hal, blkM (blkM HT3.out h2) hal, q2, q2⟩
  have HR0 : Hid ((w1.alloc (MBox c r (some ⟨g, 0, none⟩) n n)).rowIs g 52 n (fun _ => .float .f64 0)) := h1.of_block (hal.block _ hlt)
  have HNE : Hid (p0 ≠ g ∧ rb ≠ g ∧ mb ≠ g ∧ w.heap.size ≤ g) := by
    have e1 := hp0.out; have e3 := hrb.out; have e4 := hmb.out; have e5 := hg.out; have e6 := HT5.out
    show _ ∧ _ ∧ _ ∧ _
    omega
  have HRB : Hid (w.heap.size ≤ rb) := by
    have e1 := hp0.out; have e3 := hrb.out
    show _ ≤ _
    omega
  obtain ⟨V1, hV1⟩ : ∃ V, Hid (w1.alloc (MBox c r (some ⟨g, 0, none⟩) n n) = V) := ⟨_, rfl⟩
  rw [hV1.out] at HFR HR0
  have hW1 := hV1.out
  have hmb' := hmb.out
  unfold MBox at hW1
  unfold MV
  have HKS : Hid (∀ W, Hid (Fr5 w W p0 rb mb mb (MBox r c sa n ka) (MBox 0 0 none 0 0) (MBox c r (some ⟨g, 0, none⟩) n n) (MBox c r (some ⟨g, 0, none⟩) n n)) → (W.cell? ⟨mb, 0, none⟩ = some (.int .i64 c) ∧ W.cell? ⟨mb, 1, none⟩ = some (.int .i64 r) ∧ W.cell? ⟨mb, 2, none⟩ = some (.slice (some ⟨g, 0, none⟩) n n) ∧ W.cell? ⟨p0, 0, none⟩ = some (.int .i64 r) ∧ W.cell? ⟨p0, 1, none⟩ = some (.int .i64 c) ∧ W.cell? ⟨p0, 2, none⟩ = some (.slice sa n ka)) ∧ Hid (Fr5 w W p0 rb mb mb (MBox r c sa n ka) (MBox 0 0 none 0 0) (MBox c r (some ⟨g, 0, none⟩) n n) (MBox c r (some ⟨g, 0, none⟩) n n))) := fun W hW => by
    obtain ⟨a0, a1, a2⟩ := mcells_of hW.out.2.1
    obtain ⟨n0, n1, n2⟩ := mcells_of hW.out.2.2.2.1
    exact ⟨⟨n0, n1, n2, a0, a1, a2⟩, hW⟩
  clear h1 h2 hal HZ hlt x0 x1 x2
  go_wp2_with fail
  go_loopw [4] (fun iv wr => ∃ (i : Nat) (o : Nat → Nat), i ≤ r ∧ iv = .int .i64 i ∧ Hid (wr.rowIs g 52 n (fun k => .float .f64 (o k))) ∧ Hid (∀ a b, a < i → b < c → o (b * r + a) = f (a * c + b)) ∧ Hid (∀ k, o k < 18446744073709551616) ∧ Hid (Fr5 w wr p0 rb mb mb (MBox r c sa n ka) (MBox 0 0 none 0 0) (MBox c r (some ⟨g, 0, none⟩) n n) (MBox c r (some ⟨g, 0, none⟩) n n))) (fun iv _ => r - (intOf iv).toNat)
  case atStart => exact ⟨0, fun _ => 0, Nat.zero_le _, rfl, HR0, fun a b h => absurd h (Nat.not_lt_zero a), fun _ => by show 0 < 18446744073709551616; decide, HFR⟩
  case round =>
    obtain ⟨i, o, hi, rfl, HR, HP, HLO, HFW⟩ := hrel
    obtain ⟨x0, x1, x2⟩ := mcells_of HFW.out.2.1
    obtain ⟨l1, l2⟩ := HRC.out
    by_cases hlt : i < r
    · have hiI : (i : Int) < (r : Int) := by omega
      have HI := hid hlt
      clear hlt
      go_wp2_with fail
      go_loopw [5] (fun jv wr2 => ∃ (j : Nat) (o2 : Nat → Nat), j ≤ c ∧ jv = .int .i64 j ∧ Hid (wr2.rowIs g 52 n (fun k => .float .f64 (o2 k))) ∧ Hid (∀ a b, (a < i ∨ (a = i ∧ b < j)) → b < c → o2 (b * r + a) = f (a * c + b)) ∧ Hid (∀ k, o2 k < 18446744073709551616) ∧ Hid (Fr5 w wr2 p0 rb mb mb (MBox r c sa n ka) (MBox 0 0 none 0 0) (MBox c r (some ⟨g, 0, none⟩) n n) (MBox c r (some ⟨g, 0, none⟩) n n))) (fun jv _ => c - (intOf jv).toNat)
      case atStart => exact ⟨0, o, Nat.zero_le _, rfl, HR, fun a b hab hb => HP.out a b (by rcases hab with h | ⟨_, h⟩ <;> omega) hb, HLO, HFW⟩
      case round =>
        obtain ⟨j, o2, hj, rfl, HR2, HP2, HLO2, HFW2⟩ := hrel
        obtain ⟨x0, x1, x2⟩ := mcells_of HFW2.out.2.1
        by_cases hl2 : j < c
        · have hjI : (j : Int) < (c : Int) := by omega
          have HJ := hid hl2
          have HQ0 : Hid (Fr5 w wr.drew p0 rb mb mb (MBox r c sa n ka) (MBox 0 0 none 0 0) (MBox c r (some ⟨g, 0, none⟩) n n) (MBox c r (some ⟨g, 0, none⟩) n n)) := HFW2.out.drew
          have HRD : Hid (wr.drew.rowIs g 52 n (fun k => .float .f64 (o2 k))) := HR2.out.of_block rfl
          have HXX := hid (HXL.out i j HI.out hl2)
          obtain ⟨x, hx⟩ : ∃ t, Hid (f (i * c + j) = t) := ⟨_, rfl⟩
          rw [hx.out] at HXX
          clear hl2
          go_wp2_with fail
          refine wp_region_held_drew (S := fun W => (W.cell? ⟨mb, 0, none⟩ = some (.int .i64 c) ∧ W.cell? ⟨mb, 1, none⟩ = some (.int .i64 r) ∧ W.cell? ⟨mb, 2, none⟩ = some (.slice (some ⟨g, 0, none⟩) n n) ∧ W.cell? ⟨p0, 0, none⟩ = some (.int .i64 r) ∧ W.cell? ⟨p0, 1, none⟩ = some (.int .i64 c) ∧ W.cell? ⟨p0, 2, none⟩ = some (.slice sa n ka)) ∧ Hid (Fr5 w W p0 rb mb mb (MBox r c sa n ka) (MBox 0 0 none 0 0) (MBox c r (some ⟨g, 0, none⟩) n n) (MBox c r (some ⟨g, 0, none⟩) n n))) (by kernel_rfl) (HKS.out _ HQ0) (fun hHeld => ?_)
          refine take_at 0 23 (.agg #[.int .i64 c, .int .i64 r, .slice (some ⟨g, 0, none⟩) n n]) rfl rfl (by kernel_rfl) (by kernel_rfl) (by kernel_rfl) (fun _ _ _ h => h) (Or.inl ⟨by rfl, fun w hSw => by (try dsimp only at hSw); go_simp⟩) (by assumption) ?_
          simp only [Act.put, List.setIfInBounds_toArray, List.set_cons_zero, List.set_cons_succ]
          refine take_at 1 24 (.int .i64 j) rfl rfl (by kernel_rfl) (by kernel_rfl) (by kernel_rfl) (fun _ _ _ h => h) (Or.inl ⟨by rfl, fun w hSw => by (try dsimp only at hSw); go_simp⟩) (by assumption) ?_
          simp only [Act.put, List.setIfInBounds_toArray, List.set_cons_zero, List.set_cons_succ]
          refine take_at 2 25 (.int .i64 i) rfl rfl (by kernel_rfl) (by kernel_rfl) (by kernel_rfl) (fun _ _ _ h => h) (Or.inl ⟨by rfl, fun w hSw => by (try dsimp only at hSw); go_simp⟩) (by assumption) ?_
          simp only [Act.put, List.setIfInBounds_toArray, List.set_cons_zero, List.set_cons_succ]
          refine take_at 3 26 (.agg #[.int .i64 r, .int .i64 c, .slice sa n ka]) rfl rfl (by kernel_rfl) (by kernel_rfl) (by kernel_rfl) (fun _ _ _ h => h) (Or.inl ⟨by rfl, fun w hSw => by (try dsimp only at hSw); go_simp⟩) (by assumption) ?_
          simp only [Act.put, List.setIfInBounds_toArray, List.set_cons_zero, List.set_cons_succ]
          refine take_at 4 27 (.int .i64 i) rfl rfl (by kernel_rfl) (by kernel_rfl) (by kernel_rfl) (fun _ _ _ h => h) (Or.inl ⟨by rfl, fun w hSw => by (try dsimp only at hSw); go_simp⟩) (by assumption) ?_
          simp only [Act.put, List.setIfInBounds_toArray, List.set_cons_zero, List.set_cons_succ]
          refine take_at 5 28 (.int .i64 j) rfl rfl (by kernel_rfl) (by kernel_rfl) (by kernel_rfl) (fun _ _ _ h => h) (Or.inl ⟨by rfl, fun w hSw => by (try dsimp only at hSw); go_simp⟩) (by assumption) ?_
          simp only [Act.put, List.setIfInBounds_toArray, List.set_cons_zero, List.set_cons_succ]
          refine wpAnyH_ready (rs := [6]) (by kernel_rfl) (by simp) ?_
          refine AllReadyH.cons (o := _) rfl (fun K hK => ?_) AllReadyH.nil
          go_simp
          refine (HAT.out _ i j HQ0.out.1 HI.out HJ.out).mono ?_
          rintro e u1 ⟨rfl, hb1⟩
          have HG1 := hid (HQ0.out.call hb1)
          have HR1 : Hid (u1.rowIs g 52 n (fun k => .float .f64 (o2 k))) := HRD.out.of_block (hb1.block _ HRD.out.lt)
          rw [hx.out]
          clear hb1
          go_wp2_with fail
          refine hK.out _ _ (HKS.out _ HG1) (fun hHeld1 => ?_)
          clear hK K
          try simp only [Act.put, List.setIfInBounds_toArray, List.set_cons_zero, List.set_cons_succ]
          refine wpAnyH_ready (rs := [7]) (by kernel_rfl) (by simp) ?_
          refine AllReadyH.cons (o := _) rfl (fun K hK => ?_) AllReadyH.nil
          go_simp
          refine (HPUT.out _ x j i o2 HR1.out HJ.out HI.out).mono ?_
          rintro e u4 ⟨rfl, hu4⟩
          have hal : Below u1.heap.size u1 (u1.alloc (MBox c r (some ⟨g, 0, none⟩) n n)) := (Below.refl _ _).alloc (Nat.le_refl _) _
          have HG4 : Hid (Fr5 w u4 p0 rb mb mb (MBox r c sa n ka) (MBox 0 0 none 0 0) (MBox c r (some ⟨g, 0, none⟩) n n) (MBox c r (some ⟨g, 0, none⟩) n n)) := by rw [hu4]; exact (HG1.out.call hal).set HNE.out.1 HNE.out.2.1 HNE.out.2.2.1 HNE.out.2.2.1 HNE.out.2.2.2 _
          have HR4 : Hid (u4.rowIs g 52 n (fun t => .float .f64 (if t = j * r + i then x else o2 t))) := by
            rw [hu4]
            refine ((HR1.out.of_block (hal.block _ HR1.out.lt)).set (j * r + i) _).congr (fun t _ => ?_)
            by_cases ht : t = j * r + i <;> simp [ht]
          clear hal hu4
          go_wp2_with fail
          refine hK.out _ _ (HKS.out _ HG4) (fun hHeld2 => ?_)
          clear hK K
          try simp only [Act.put, List.setIfInBounds_toArray, List.set_cons_zero, List.set_cons_succ]
          refine wpAnyH_done (by kernel_rfl) ?_ _
          go_wp2_with fail
          have hj1 := HJ.out
          have hi1 := HI.out
          refine ⟨⟨j + 1, fun t => if t = j * r + i then x else o2 t, by omega, by go_num, HR4, fun a b hab hb => ?_, fun k => ?_, HG4⟩, ?_⟩
          · dsimp only
            by_cases h : b * r + a = j * r + i
            · obtain ⟨eb, ea⟩ := place_ne (by rcases hab with h | ⟨h, _⟩ <;> omega) hi1 h
              subst ea eb
              rw [if_pos rfl, hx.out]
            · rw [if_neg h]
              refine HP2.out a b ?_ hb
              rcases hab with h1 | ⟨h1, h2⟩
              · exact Or.inl h1
              · have : b ≠ j := fun hc => h (by rw [h1, hc])
                exact Or.inr ⟨h1, by omega⟩
          · dsimp only
            by_cases h : k = j * r + i
            · rw [if_pos h]; exact HXX.out
            · rw [if_neg h]; exact HLO2.out k
          · simp [intOf]; omega
        · obtain rfl : c = j := by omega
          go_wp2_with fail
          have hi1 := HI.out
          refine ⟨⟨i + 1, o2, by omega, by go_num, HR2, fun a b ha hb => HP2.out a b (by omega) hb, HLO2, HFW2⟩, ?_⟩
          simp [intOf]; omega
    · obtain rfl : r = i := by omega
      obtain ⟨m0, m1, m2⟩ := mcells_of HFW.out.2.2.2.1
      obtain ⟨b0, b1, b2⟩ := mcells_of HFW.out.2.2.1
      have fz := frzM HFW.out.2.2.1
      have HFN := hid (rowF (HR.out) (fun k _ => HLO.out k) HN144.out)
      go_wp2_with fail
      exact bodyPost_ret (v := .agg #[.int .i64 c, .int .i64 r, .slice (some ⟨g, 0, none⟩) n n]) (by simp [results, Try.results8, go_sem, b0, b1, b2]) rfl ⟨⟨g, o, rfl, StoM.fn HFN.out HFW.out.2.2.1, fun a b ha hb => HP.out b a hb ha⟩, StoM.below HFW.out.1 HRB.out⟩
end Go.Proofs.Ytjaljdodlfmebaa
