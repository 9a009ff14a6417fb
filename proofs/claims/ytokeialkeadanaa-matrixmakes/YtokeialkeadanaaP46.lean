
/- Of any rows, both sides, in one form; the law's told of it; rows that stay while a law runs. -/
import Derived.Test.YtokeialkeadanaaP41
import Derived.Test.YtokeialkeadanaaP45
import Derived.Test.YtokeialkeadanaaP39
import Derived.Test.YtokeialkeadanaaP43
namespace Go.Proofs.Ytokeialkeadanaa
open Go.RowKit Go.IntWalk

/-- What Of tells of any rows. -/
def ofE (n : Nat) (M : Nat → Nat) (X : Nat → List Nat) : Int := if n = 0 then 0 else if 12 < n ∨ 12 < M 0 then 1 else if samB M n = false then 3 else if allF X n = false then 4 else 0
def ofC (n : Nat) (M : Nat → Nat) : Nat := if n = 0 then 0 else M 0
/-- A matrix that was handed back, with room behind it or not. -/
def ResL (r c : Nat) (v : Nat → Nat → Nat) (W : World) (X0 X1 : Int) (X2 : Option Addr) (X3 X4 : Nat) : Prop := X0 = r ∧ X1 = c ∧ X3 = r * c ∧ ∃ o : Nat → Nat, FnM W X2 X3 X4 o ∧ ∀ i j, i < r → j < c → canonOf (o (i * c + j)) = v i j
theorem kept_resl (E : Int) (r c : Nat) (v : Nat → Nat → Nat) (X0 X1 : Int) (X2 : Option Addr) (X3 X4 : Nat) : Kept (fun W => E = 0 → ResL r c v W X0 X1 X2 X3 X4) :=
  ⟨fun _ _ hb h e => by obtain ⟨h1, h2, h3, o, h4, h5⟩ := h e; exact ⟨h1, h2, h3, o, h4.below hb, h5⟩, fun _ _ _ _ _ _ _ _ _ _ _ _ hb h e => by obtain ⟨h1, h2, h3, o, h4, h5⟩ := h e; exact ⟨h1, h2, h3, o, StoM.fn h4 hb, h5⟩⟩
theorem of_res {n c g : Nat} {M : Nat → Nat} {X : Nat → List Nat} {W : World} {o : Nat → Nat} {w : World} {la : Option Addr} {SA : Nat → Option Addr} {K : Nat → Nat} (h : LsF w la n SA M K X) (hc : M 0 = c) (hs : samB M n = true) (hf : allF X n = true) (h1 : FnM W (some ⟨g, 0, none⟩) (n * c) (n * c) o) (h2 : ∀ i j, i < n → j < c → o (i * c + j) = (X i).getD j 0) : ResM 0 n c (ofV X) W n c (some ⟨g, 0, none⟩) (n * c) (n * c) :=
  Or.inl ⟨rfl, rfl, rfl, rfl, rfl, g, o, rfl, h1, fun i j hi hj => by rw [h2 i j hi hj]; rfl, by rw [all_fin (fun i hi => (h.1 i hi).1) hs hc h2]; exact hf⟩
theorem Of_tot (la : Option Addr) (n lc : Nat) (SA : Nat → Option Addr) (M K : Nat → Nat) (X : Nat → List Nat) (w : World) (h : LsF w la n SA M K X) : Calls Try.prog 17 #[.slice la n lc] w fun e w' => (∃ X0 X1 X2 X3 X4, e = .returned (.tuple #[.agg #[.int .i64 X0, .int .i64 X1, .slice X2 X3 X4], .int .i64 (ofE n M X)]) ∧ ResM (ofE n M X) n (ofC n M) (ofV X) w' X0 X1 X2 X3 X4) ∧ Below w.heap.size w w' := by
  unfold ofE ofC
  by_cases h0 : n = 0
  · rw [if_pos h0, if_pos h0]
    refine (Of_nil la n lc SA M K X w h h0).mono ?_
    rintro e w' ⟨⟨X0, X1, X2, X3, X4, rfl, hr⟩, hbb⟩
    subst h0
    exact ⟨⟨X0, X1, X2, X3, X4, rfl, hr⟩, hbb⟩
  · rw [if_neg h0, if_neg h0]
    by_cases h1 : 12 < n ∨ 12 < M 0
    · rw [if_pos h1]
      have hq : Calls Try.prog 17 #[.slice la n lc] w fun e w' => e = .returned (NonM 1) ∧ Below w.heap.size w w' := by
        by_cases h2 : 12 < n
        · exact Of_rng1 la n lc SA M K X w h h2
        · exact Of_rng2 la n lc SA M K X w h ⟨by omega, by omega⟩ (h1.resolve_left h2)
      refine hq.mono ?_
      rintro e w' ⟨rfl, hbb⟩
      obtain ⟨X0, X1, X2, X3, X4, e1, e2⟩ := res_non n (M 0) (ofV X) 1 w' (by decide)
      exact ⟨⟨X0, X1, X2, X3, X4, by rw [e1], e2⟩, hbb⟩
    · rw [if_neg h1]
      refine (Of_rest la n lc SA M K X w h ⟨by omega, by omega⟩ (by omega)).mono ?_
      rintro e w' ⟨⟨hs, rfl⟩ | ⟨hs, hf, rfl⟩ | ⟨hs, hf, g, o, rfl, h2, h3⟩, hbb⟩
      · rw [if_pos hs]
        obtain ⟨X0, X1, X2, X3, X4, e1, e2⟩ := res_non n (M 0) (ofV X) 3 w' (by decide)
        exact ⟨⟨X0, X1, X2, X3, X4, by rw [← e1]; rfl, e2⟩, hbb⟩
      · rw [if_neg (by rw [hs]; decide), if_pos hf]
        obtain ⟨X0, X1, X2, X3, X4, e1, e2⟩ := res_non n (M 0) (ofV X) 4 w' (by decide)
        exact ⟨⟨X0, X1, X2, X3, X4, by rw [← e1]; rfl, e2⟩, hbb⟩
      · rw [if_neg (by rw [hs]; decide), if_neg (by rw [hf]; decide)]
        exact ⟨⟨_, _, _, _, _, rfl, of_res h rfl hs hf h2 h3⟩, hbb⟩
theorem rOf_tot (la : Option Addr) (n lc : Nat) (SA : Nat → Option Addr) (M K : Nat → Nat) (X : Nat → List Nat) (w : World) (h : LsF w la n SA M K X) : Calls Try.prog 18 #[.slice la n lc] w fun e w' => (∃ X0 X1 X2 X3 X4, e = .returned (.tuple #[.agg #[.int .i64 X0, .int .i64 X1, .slice X2 X3 X4], .int .i64 (ofE n M X)]) ∧ (ofE n M X = 0 → ResL n (ofC n M) (ofV X) w' X0 X1 X2 X3 X4)) ∧ Below w.heap.size w w' := by
  by_cases hr : 12 < n ∨ (0 < n ∧ 12 < M 0)
  · have h0 : n ≠ 0 := by omega
    have he : ofE n M X = 1 := by unfold ofE; rw [if_neg h0, if_pos (by omega)]
    rw [he]
    have hq : Calls Try.prog 18 #[.slice la n lc] w fun e w' => e = .returned (NonM 1) ∧ Below w.heap.size w w' := by
      by_cases h2 : 12 < n
      · exact rOf_rng1 la n lc SA M K X w h h2
      · exact rOf_rng2 la n lc SA M K X w h ⟨by omega, by omega⟩ (by omega)
    refine hq.mono ?_
    rintro e w' ⟨rfl, hbb⟩
    exact ⟨⟨_, _, _, _, _, rfl, fun q => absurd q (by decide)⟩, hbb⟩
  · refine (rOf_main la n lc SA M K X w h (by omega) (fun q => by omega)).mono ?_
    rintro e w' ⟨⟨hs, rfl⟩ | ⟨hs, ta, cap, rfl, hl⟩, hbb⟩
    · have h0 : n ≠ 0 := fun q => by subst q; have h1 : samB M 0 = true := rfl; rw [h1] at hs; cases hs
      have he : ofE n M X = 3 := by unfold ofE; rw [if_neg h0, if_neg (by omega), if_pos hs]
      rw [he]
      exact ⟨⟨_, _, _, _, _, rfl, fun q => absurd q (by decide)⟩, hbb⟩
    · have he : ofE n M X = if allF X n = true then 0 else 4 := by
        unfold ofE
        by_cases h0 : n = 0
        · rw [if_pos h0]
          subst h0
          rfl
        · rw [if_neg h0, if_neg (by omega), if_neg (by rw [hs]; decide)]
          cases allF X n <;> rfl
      rw [he]
      refine ⟨⟨_, _, _, _, _, rfl, fun _ => ⟨rfl, rfl, rfl, _, hl.fn, fun i j hi hj => ?_⟩⟩, hbb⟩
      unfold ofC at hj ⊢
      have h0 : n ≠ 0 := by omega
      rw [if_neg h0] at hj ⊢
      rw [ofL_at (c := M 0) (fun k hk => by rw [(h.1 k hk).1]; exact sam_at hs hk) hi hj]
      rfl
theorem told_resL (E : Int) (r c : Nat) (v : Nat → Nat → Nat) (X0 X1 Y0 Y1 : Int) (X2 Y2 : Option Addr) (X3 X4 Y3 Y4 : Nat) (w : World) (h : ResM E r c v w X0 X1 X2 X3 X4) (h2 : E = 0 → ResL r c v w Y0 Y1 Y2 Y3 Y4) :
    Calls Try.prog 12 #[.agg #[.int .i64 X0, .int .i64 X1, .slice X2 X3 X4], .int .i64 E, .agg #[.int .i64 Y0, .int .i64 Y1, .slice Y2 Y3 Y4], .int .i64 E] w fun e w' => e = .returned (.bool true) ∧ Below w.heap.size w w' := by
  rcases h with ⟨rfl, rfl, rfl, rfl, rfl, g, o, rfl, hf, hv, _⟩ | ⟨h0, rfl, rfl, rfl, rfl, rfl⟩
  · obtain ⟨rfl, rfl, rfl, o', hf', hv'⟩ := h2 rfl
    refine told_yes8 r c _ _ (r * c) _ _ o o' w hf hf' (fun k hk => ?_)
    obtain ⟨q1, q2, q3⟩ := split_k hk
    rw [← q3, hv _ _ q1 q2, hv' _ _ q1 q2]
  · exact told_no E h0 _ _ _ _ _ w
/-- Rows of numbers, the list a block of its own. -/
def LsT (W : World) (la : Option Addr) (n : Nat) (SA : Nat → Option Addr) (M K : Nat → Nat) (X : Nat → List Nat) : Prop := (∀ i, i < n → FlM W (SA i) (M i) (K i) (X i)) ∧ (n ≠ 0 → ∃ b cur, la = some ⟨b, 0, none⟩ ∧ W.heap[b]? = some (.cells cur 27 (0, 0)) ∧ ∀ i, i < n → cur[i]? = some (.slice (SA i) (M i) (K i)))
theorem LsT.ls {W : World} {la : Option Addr} {n : Nat} {SA : Nat → Option Addr} {M K : Nat → Nat} {X : Nat → List Nat} (h : LsT W la n SA M K X) : LsF W la n SA M K X := by
  refine ⟨h.1, fun hn => ?_⟩
  obtain ⟨b, cur, e, hb, hc⟩ := h.2 hn
  refine ⟨b, 0, e, (Array.getElem?_eq_some_iff.1 hb).1, fun i hi => ?_⟩
  rw [Nat.zero_add]
  simp [World.cell?, hb, hc i hi]
theorem kept_lst (la : Option Addr) (n : Nat) (SA : Nat → Option Addr) (M K : Nat → Nat) (X : Nat → List Nat) : Kept (fun W => LsT W la n SA M K X) := by
  refine ⟨fun W W' hb h => ⟨fun i hi => (h.1 i hi).below hb, fun hn => ?_⟩, fun W b r c r0 c0 s s0 m k n0 k0 hb h => ⟨fun i hi => sto_fl (h.1 i hi) hb, fun hn => ?_⟩⟩
  · obtain ⟨b, cur, e, hg, hc⟩ := h.2 hn
    exact ⟨b, cur, e, (hb.block b (Array.getElem?_eq_some_iff.1 hg).1).trans hg, hc⟩
  · obtain ⟨b', cur, e, hg, hc⟩ := h.2 hn
    refine ⟨b', cur, e, (StoM.keep (fun q => ?_)).trans hg, hc⟩
    rw [q, hb] at hg
    unfold MBox at hg
    simp at hg
end Go.Proofs.Ytokeialkeadanaa

namespace Go.Proofs.Ytokeialkeadanaa
open Go.RowKit Go.IntWalk

set_option maxRecDepth 4000 in
set_option maxHeartbeats 2000000 in
theorem rEye_ok (n : Nat) (hn : n ≤ 12) (w : World) : Calls Try.prog 14 #[.int .i64 n] w fun e w' => (∃ (g : Nat), e = .returned (.tuple #[.agg #[.int .i64 n, .int .i64 n, .slice (some ⟨g, 0, none⟩) (n * n) (n * n)], .int .i64 0]) ∧ Gd w' n n (some ⟨g, 0, none⟩) (n * n) (n * n) (eyeF n)) ∧ Below w.heap.size w w' := by
  have hst := fstoreM
  have HN12 := hid hn
  have HZ := hid (fun W => rZero_good n n hn hn W)
  have HEND : Hid (∀ (W : World) (g : Nat) (o : Nat → Nat), W.rowIs g 57 (n * n) (fun k => .float .f64 (o k)) → (∀ a b, a < n → b < n → o (a * n + b) = if a = b ∧ a < n then 4607182418800017408 else 0) → (∀ k, o k < 18446744073709551616) → Gd W n n (some ⟨g, 0, none⟩) (n * n) (n * n) (eyeF n)) := fun W g o h1 h2 h3 => by
    have hpp : n * n ≤ 144 := Nat.mul_le_mul hn hn
    have ho : ∀ k, k < n * n → o k = eyeF n k := fun k hk => by
      obtain ⟨q1, q2, q3⟩ := split_k hk
      rw [← q3, h2 _ _ q1 q2, eye_at q2]
      by_cases h : k / n = k % n
      · rw [if_pos ⟨h, q1⟩, if_pos h]
      · rw [if_neg (fun hh => h hh.1), if_neg h]
    refine ⟨hn, hn, rfl, (row_fn h1 (fun k _ => h3 k) (by omega)).congr (fun k hk => ho k hk), finF_of (fun k _ => ?_)⟩
    unfold eyeF
    split <;> decide
  have HPUT0 : Hid (∀ W (g x p q : Nat) (o : Nat → Nat), W.rowIs g 57 (n * n) (fun k => .float .f64 (o k)) → p < n → q < n → Calls Try.prog 37 #[.agg #[.int .i64 n, .int .i64 n, .slice (some ⟨g, 0, none⟩) (n * n) (n * n)], .int .i64 (p : Nat), .int .i64 (q : Nat), .float .f64 x] W fun e w' => e = .returned (.tuple #[]) ∧ w' = (W.alloc (MBox n n (some ⟨g, 0, none⟩) (n * n) (n * n))).setCell ⟨g, p * n + q, none⟩ (.float .f64 x)) := fun W g x p q o hW hp hq => by
    have hk := place_lt hp hq
    have := HN12.out
    exact Put_any n g n _ _ p q x _ W (hW.cell hk) (hW.frozen _) hW.lt (by omega) (by omega) (by omega) hk
  obtain ⟨N, hN⟩ : ∃ p, Hid (n * n = p) := ⟨_, rfl⟩
  unfold ZerR at HZ
  rw [hN.out] at HZ HEND HPUT0 ⊢
  have HR : Hid ((w.alloc (MBox 0 0 none 0 0)).heap[w.heap.size]? = some (MBox 0 0 none 0 0)) := nblkM _ _
  have HB : Hid (Below w.heap.size w (w.alloc (MBox 0 0 none 0 0))) := (Below.refl _ _).alloc (Nat.le_refl _) _
  obtain ⟨V, hV⟩ : ∃ V, Hid (w.alloc (MBox 0 0 none 0 0) = V) := ⟨_, rfl⟩
  rw [hV.out] at HR HB
  have hV' := hV.out
  unfold MBox at hV'
  have HSZ : Hid (w.heap.size < V.heap.size) := (Array.getElem?_eq_some_iff.1 HR.out).1
  clear hn
  go_enter Try.func14, Try.ntmps14
  go_wp2_with fail
  refine (HZ.out _).mono ?_
  rintro e w1 ⟨⟨g, ⟨rfl, hrow⟩, hg⟩, hb1⟩
  have HPUT := hid (fun W x i j o => HPUT0.out W g x i j o)
  have hal : Below w1.heap.size w1 (w1.alloc (MBox n n (some ⟨g, 0, none⟩) N N)) := (Below.refl _ _).alloc (Nat.le_refl _) _
  have HFR : Hid (FrF w (w1.alloc (MBox n n (some ⟨g, 0, none⟩) N N)) w1.heap.size w.heap.size (MBox n n (some ⟨g, 0, none⟩) N N) (MBox 0 0 none 0 0)) :=
    ⟨(HB.out.trans (hb1.mono HB.out.size)).trans (hal.mono (HB.out.trans (hb1.mono HB.out.size)).size), nblkM _ _, blkM (blkM HR.out hb1) hal⟩
  have HR0 : Hid ((w1.alloc (MBox n n (some ⟨g, 0, none⟩) N N)).rowIs g 57 N (fun _ => .float .f64 0)) := hrow.of_block (hal.block _ hrow.lt)
  obtain ⟨V1, hV1⟩ : ∃ V, Hid (w1.alloc (MBox n n (some ⟨g, 0, none⟩) N N) = V) := ⟨_, rfl⟩
  rw [hV1.out] at HFR HR0
  have hW1 := hV1.out
  have HSG : Hid (w.heap.size + 1 ≤ g ∧ g < w1.heap.size) := ⟨by have e2 := HSZ.out; omega, hrow.lt⟩
  obtain ⟨mb, hmb⟩ : ∃ V, Hid (w1.heap.size = V) := ⟨_, rfl⟩
  obtain ⟨rb, hrb⟩ : ∃ V, Hid (w.heap.size = V) := ⟨_, rfl⟩
  have HNE : Hid (mb ≠ g ∧ rb ≠ g ∧ w.heap.size ≤ g) := by
    have e1 := hmb.out; have e2 := hrb.out; have e4 := HSG.out
    show _ ∧ _ ∧ _
    omega
  rw [hmb.out, hrb.out] at HFR
  have hmb1 := hmb.out
  have hrb1 := hrb.out
  unfold MBox at hW1
  clear hal hg hrow hb1
  clear HZ HPUT0
  go_wp2_with fail
  go_loopw [6] (fun iv wr => ∃ (i : Nat) (o : Nat → Nat), i ≤ n ∧ iv = .int .i64 i ∧ Hid (wr.rowIs g 57 N (fun k => .float .f64 (o k))) ∧ Hid (∀ a b, a < n → b < n → o (a * n + b) = if a = b ∧ a < i then 4607182418800017408 else 0) ∧ Hid (∀ k, o k < 18446744073709551616) ∧ Hid (FrF w wr mb rb (MBox n n (some ⟨g, 0, none⟩) N N) (MBox 0 0 none 0 0))) (fun iv _ => n - (intOf iv).toNat)
  case atStart => exact ⟨0, fun _ => 0, Nat.zero_le _, rfl, HR0, fun a b _ _ => by rw [if_neg (fun h => absurd h.2 (Nat.not_lt_zero a))], fun _ => by show 0 < 18446744073709551616; decide, HFR⟩
  case round =>
    obtain ⟨i, o, hi, rfl, HR1, HP, HLO, HFW⟩ := hrel
    have n12 := HN12.out
    by_cases hlt : i < n
    · have hiI : (i : Int) < (n : Int) := by omega
      have HI := hid hlt
      have HG1 := HFW
      have HRD := HR1
      obtain ⟨m0, m1, m2⟩ := mcells_of HFW.out.2.1
      have HXX : Hid (4607182418800017408 < 18446744073709551616) := by show _ < _; decide
      have HXV : Hid ((4607182418800017408 : Nat) = 4607182418800017408) := rfl
      have HPQ := hid (HPUT.out wr 4607182418800017408 i i o HR1.out HI.out HI.out)
      clear hlt
      go_wp2_with fail
      refine HPQ.out.mono ?_
      rintro e u4 ⟨rfl, hu4⟩
      have hal : Below wr.heap.size wr (wr.alloc (MBox n n (some ⟨g, 0, none⟩) N N)) := (Below.refl _ _).alloc (Nat.le_refl _) _
      have HG4 : Hid (FrF w u4 mb rb (MBox n n (some ⟨g, 0, none⟩) N N) (MBox 0 0 none 0 0)) := by rw [hu4]; exact (HG1.out.call hal).set HNE.out.1 HNE.out.2.1 HNE.out.2.2 _
      have HR4 : Hid (u4.rowIs g 57 N (fun t => .float .f64 (if t = i * n + i then 4607182418800017408 else o t))) := by
        rw [hu4]
        refine ((HRD.out.of_block (hal.block _ HRD.out.lt)).set (i * n + i) _).congr (fun t _ => ?_)
        by_cases ht : t = i * n + i <;> simp [ht]
      clear hal hu4
      clear HPQ
      go_wp2_with fail
      have hi1 := HI.out
      refine ⟨⟨i + 1, fun t => if t = i * n + i then 4607182418800017408 else o t, by omega, by go_num, HR4, fun a b ha hb => ?_, fun k => ?_, HG4⟩, ?_⟩
      · by_cases h : a * n + b = i * n + i
        · obtain ⟨ea, eb⟩ := place_ne hb hi1 h
          subst ea
          dsimp only
          rw [if_pos h, if_pos ⟨eb.symm, by omega⟩]
          try exact HXV.out
        · dsimp only
          rw [if_neg h, HP.out a b ha hb]
          by_cases hab : a = b ∧ a < i
          · rw [if_pos hab, if_pos ⟨hab.1, by omega⟩]
          · rw [if_neg hab, if_neg (fun hc => hab ⟨hc.1, by
              have : a ≠ i := fun hh => h (by rw [← hc.1, hh])
              omega⟩)]
      · dsimp only
        by_cases h : k = i * n + i
        · rw [if_pos h]; exact HXX.out
        · rw [if_neg h]; exact HLO.out k
      · simp [intOf]; omega
    · obtain rfl : i = n := by omega
      obtain ⟨m0, m1, m2⟩ := mcells_of HFW.out.2.1
      obtain ⟨b0, b1, b2⟩ := mcells_of HFW.out.2.2
      have fz := frzM HFW.out.2.2
      go_wp2_with fail
      exact bodyPost_ret (v := .tuple #[.agg #[.int .i64 i, .int .i64 i, .slice (some ⟨g, 0, none⟩) N N], .int .i64 0]) (by simp [results, Try.results14, go_sem, b0, b1, b2]) rfl ⟨⟨g, rfl, HEND.out _ g o (HR1.out.of_block (StoM.keep (Ne.symm HNE.out.2.1))) HP.out HLO.out⟩, StoM.below HFW.out.1 (by have := hrb.out; omega)⟩
set_option maxRecDepth 4000 in
set_option maxHeartbeats 2000000 in
theorem rEye_bad (n : Int) (w : World) (h : sideB n = false) : Calls Try.prog 14 #[.int .i64 n] w fun e w' => e = .returned (NonM 1) ∧ Below w.heap.size w w' := by
  obtain ⟨z0, z1, z2, z3, z4, HZZ⟩ : ∃ (z0 z1 : Int) (z2 : Option Addr) (z3 z4 : Nat), Hid (z0 = 0 ∧ z1 = 0 ∧ z2 = none ∧ z3 = 0 ∧ z4 = 0) := ⟨0, 0, none, 0, 0, ⟨rfl, rfl, rfl, rfl, rfl⟩⟩
  have HZ : Hid (∀ W, Calls Try.prog 11 #[.int .i64 n, .int .i64 n] W fun e w' => e = .returned (.tuple #[.agg #[.int .i64 z0, .int .i64 z1, .slice z2 z3 z4], .int .i64 1]) ∧ Below W.heap.size W w') := fun W => by
    obtain ⟨e0, e1, e2, e3, e4⟩ := HZZ.out
    rw [e0, e1, e2, e3, e4]
    exact rZero_bad n n W (fun q => by rw [h] at q; exact absurd q.1 (by decide))
  have HR : Hid ((w.alloc (MBox 0 0 none 0 0)).heap[w.heap.size]? = some (MBox 0 0 none 0 0)) := nblkM _ _
  have HB : Hid (Below w.heap.size w (w.alloc (MBox 0 0 none 0 0))) := (Below.refl _ _).alloc (Nat.le_refl _) _
  obtain ⟨V, hV⟩ : ∃ V, Hid (w.alloc (MBox 0 0 none 0 0) = V) := ⟨_, rfl⟩
  rw [hV.out] at HR HB
  have hV' := hV.out
  unfold MBox at hV'
  clear h
  go_enter Try.func14, Try.ntmps14
  go_wp2_with fail
  refine (HZ.out _).mono ?_
  rintro e w1 ⟨rfl, hb1⟩
  have hal : Below w1.heap.size w1 (w1.alloc (MBox z0 z1 z2 z3 z4)) := (Below.refl _ _).alloc (Nat.le_refl _) _
  have HB1 := hid ((HB.out.trans (hb1.mono HB.out.size)).trans (hal.mono (HB.out.trans (hb1.mono HB.out.size)).size))
  have HR1 := hid (blkM (blkM HR.out hb1) hal)
  have HM1 : Hid ((w1.alloc (MBox z0 z1 z2 z3 z4)).heap[w1.heap.size]? = some (MBox z0 z1 z2 z3 z4)) := nblkM _ _
  obtain ⟨V1, hV1⟩ : ∃ V, Hid (w1.alloc (MBox z0 z1 z2 z3 z4) = V) := ⟨_, rfl⟩
  obtain ⟨mb, hmb⟩ : ∃ V, Hid (w1.heap.size = V) := ⟨_, rfl⟩
  rw [hV1.out] at HB1 HR1 HM1
  rw [hmb.out] at HM1
  have hW1 := hV1.out
  have hmb1 := hmb.out
  unfold MBox at hW1
  clear hal hb1 HZ
  go_wp2_with fail
  go_loopw [6] (fun iv wr => iv = .int .i64 0 ∧ Hid (wr = V1)) (fun _ _ => 0)
  case atStart => exact ⟨rfl, rfl⟩
  case round =>
    obtain ⟨rfl, hwr⟩ := hrel
    have hwr' := hwr.out
    subst hwr'
    obtain ⟨y0, y1, y2⟩ := mcells_of HR1.out
    obtain ⟨m0, m1, m2⟩ := mcells_of HM1.out
    have fz := frzM HR1.out
    by_cases h0 : (0 : Int) < n
    · go_wp2_with fail
      exact bodyPost_ret (v := .tuple #[.agg #[.int .i64 z0, .int .i64 z1, .slice z2 z3 z4], .int .i64 1]) (by simp [results, Try.results14, go_sem, y0, y1, y2]) rfl ⟨by obtain ⟨e0, e1, e2, e3, e4⟩ := HZZ.out; rw [e0, e1, e2, e3, e4]; rfl, StoM.below HB1.out (Nat.le_refl _)⟩
    · go_wp2_with fail
      exact bodyPost_ret (v := .tuple #[.agg #[.int .i64 z0, .int .i64 z1, .slice z2 z3 z4], .int .i64 1]) (by simp [results, Try.results14, go_sem, y0, y1, y2]) rfl ⟨by obtain ⟨e0, e1, e2, e3, e4⟩ := HZZ.out; rw [e0, e1, e2, e3, e4]; rfl, StoM.below HB1.out (Nat.le_refl _)⟩
theorem rEye_tot (n : Int) (w : World) : Calls Try.prog 14 #[.int .i64 n] w fun e w' => (∃ X0 X1 X2 X3 X4, e = .returned (.tuple #[.agg #[.int .i64 X0, .int .i64 X1, .slice X2 X3 X4], .int .i64 (eyeE n)]) ∧ ResM (eyeE n) n.toNat n.toNat eyeV w' X0 X1 X2 X3 X4) ∧ Below w.heap.size w w' := by
  unfold eyeE
  cases h : sideB n with
  | true =>
    rw [if_pos rfl]
    obtain ⟨a, rfl, ha⟩ := side_some h
    rw [Int.toNat_natCast a]
    refine (rEye_ok a ha w).mono ?_
    rintro e w' ⟨⟨g, rfl, hg⟩, hbb⟩
    exact ⟨⟨_, _, _, _, _, rfl, eye_res hg⟩, hbb⟩
  | false =>
    rw [if_neg (by decide)]
    refine (rEye_bad n w h).mono ?_
    rintro e w' ⟨rfl, hbb⟩
    obtain ⟨X0, X1, X2, X3, X4, e1, e2⟩ := res_non n.toNat n.toNat eyeV 1 w' (by decide)
    exact ⟨⟨X0, X1, X2, X3, X4, by rw [e1], e2⟩, hbb⟩
end Go.Proofs.Ytokeialkeadanaa
