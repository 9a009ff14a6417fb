
/- matrix: Zero and Eye of a side that may be. -/
import Derived.Test.YthnblidkbcficaaP29
namespace Go.Proofs.Ythnblidkbcficaa
open Go.RowKit Go.IntWalk

theorem side_yes (n : Nat) (h : n ≤ 12) : sideB n = true := by unfold sideB; simp; omega
set_option maxRecDepth 4000 in
set_option maxHeartbeats 1000000 in
theorem Zero_good (r c : Nat) (hr : r ≤ 12) (hc : c ≤ 12) (w : World) : Calls Try.prog 14 #[.int .i64 r, .int .i64 c] w fun e w' => (∃ g, e = .returned (.tuple #[MV r c (some ⟨g, 0, none⟩) (r * c) (r * c), .int .i64 0]) ∧ w.heap.size ≤ g ∧ w'.rowIs g 51 (r * c) (fun _ => .float .f64 0)) ∧ Below w.heap.size w w' := by
  have HS1 := hid (fun W => isSide_any r W)
  have HS2 := hid (fun W => isSide_any c W)
  rw [side_yes r hr] at HS1
  rw [side_yes c hc] at HS2
  have HZ := hid (fun W => zeros_any r c (by omega) (by omega) W)
  have HR : Hid ((w.alloc (MBox 0 0 none 0 0)).heap[w.heap.size]? = some (MBox 0 0 none 0 0)) := nblkM _ _
  have HB : Hid (Below w.heap.size w (w.alloc (MBox 0 0 none 0 0))) := (Below.refl _ _).alloc (Nat.le_refl _) _
  have HSZ : Hid ((w.alloc (MBox 0 0 none 0 0)).heap.size = w.heap.size + 1) := World.size_alloc _ _
  obtain ⟨V, hV⟩ : ∃ V, Hid (w.alloc (MBox 0 0 none 0 0) = V) := ⟨_, rfl⟩
  rw [hV.out] at HR HB HSZ
  have hV' := hV.out
  unfold MBox at hV'
  obtain ⟨N, hN⟩ : ∃ p, Hid (r * c = p) := ⟨_, rfl⟩
  rw [hN.out] at HZ ⊢
  unfold MV at HZ ⊢
  clear hr hc
  go_enter Try.func14, Try.ntmps14
  go_wp2_with fail
  refine (HS1.out _).mono ?_
  rintro e w1 ⟨rfl, rfl⟩
  go_wp2_with fail
  refine (HS2.out _).mono ?_
  rintro e w1 ⟨rfl, rfl⟩
  go_wp2_with fail
  refine (HZ.out _).mono ?_
  rintro e w2 ⟨rfl, hrow, hb2⟩
  have HB2 := hid (HB.out.trans (hb2.mono HB.out.size))
  have HR2 := hid (blkM HR.out hb2)
  have HW := hid hrow
  obtain ⟨g, hg⟩ : ∃ t, Hid (w1.heap.size + 1 = t) := ⟨_, rfl⟩
  rw [hg.out] at HW ⊢
  have HG : Hid (w.heap.size < g) := by
    have e1 := hg.out; have e2 := HSZ.out
    show _ < _
    omega
  obtain ⟨y0, y1, y2⟩ := mcells_of HR2.out
  have fz := frzM HR2.out
  clear hb2 hrow
  go_wp2_with fail
  exact bodyPost_ret (v := .tuple #[.agg #[.int .i64 r, .int .i64 c, .slice (some ⟨g, 0, none⟩) N N], .int .i64 0]) (by simp [results, Try.results14, go_sem, y0, y1, y2]) rfl ⟨⟨g, rfl, Nat.le_of_lt HG.out, HW.out.of_block (StoM.keep (Nat.ne_of_gt HG.out))⟩, StoM.below HB2.out (Nat.le_refl _)⟩
/-- The unit matrix' numbers. -/
def eyeF (n k : Nat) : Nat := if k / n = k % n then 4607182418800017408 else 0
theorem eye_at {n a b : Nat} (hb : b < n) : eyeF n (a * n + b) = if a = b then 4607182418800017408 else 0 := by
  unfold eyeF
  have e1 : (a * n + b) % n = b := by rw [Nat.mul_comm, Nat.mul_add_mod]; exact Nat.mod_eq_of_lt hb
  have e2 : (a * n + b) / n = a := by rw [Nat.mul_comm, Nat.mul_add_div (by omega), Nat.div_eq_of_lt hb, Nat.add_zero]
  rw [e1, e2]
theorem row_fn {W : World} {g N : Nat} {o : Nat → Nat} (h : W.rowIs g 51 N (fun k => .float .f64 (o k))) (ho : ∀ k, k < N → o k < 18446744073709551616) (hN : N ≤ 9223372036854775807) : FnM W (some ⟨g, 0, none⟩) N N o :=
  Or.inr ⟨g, 0, rfl, h.lt, Nat.le_refl _, hN, fun k hk => ⟨by rw [Nat.zero_add]; exact h.cell hk, ho k hk⟩⟩
set_option maxRecDepth 4000 in
set_option maxHeartbeats 2000000 in
theorem Eye_good (n : Nat) (hn : n ≤ 12) (w : World) : Calls Try.prog 17 #[.int .i64 n] w fun e w' => (∃ (g : Nat), e = .returned (.tuple #[.agg #[.int .i64 n, .int .i64 n, .slice (some ⟨g, 0, none⟩) (n * n) (n * n)], .int .i64 0]) ∧ Gd w' n n (some ⟨g, 0, none⟩) (n * n) (n * n) (eyeF n)) ∧ Below w.heap.size w w' := by
  have hst := fstoreM
  have hpp : n * n ≤ 144 := Nat.mul_le_mul hn hn
  have HZ := hid (fun W => Zero_good n n hn hn W)
  have HPL : Hid (∀ i j, i < n → j < n → i * n + j < n * n) := fun i j hi hj => place_lt hi hj
  have HN12 := hid hn
  have HEND : Hid (∀ (W : World) (g : Nat) (o : Nat → Nat), W.rowIs g 51 (n * n) (fun k => .float .f64 (o k)) → (∀ a b, a < n → b < n → o (a * n + b) = if a = b ∧ a < n then 4607182418800017408 else 0) → Gd W n n (some ⟨g, 0, none⟩) (n * n) (n * n) (eyeF n)) := fun W g o h1 h2 => by
    have ho : ∀ k, k < n * n → o k = eyeF n k := fun k hk => by
      obtain ⟨q1, q2, q3⟩ := split_k hk
      rw [← q3, h2 _ _ q1 q2, eye_at q2]
      by_cases h : k / n = k % n
      · rw [if_pos ⟨h, q1⟩, if_pos h]
      · rw [if_neg (fun hh => h hh.1), if_neg h]
    have hlt : ∀ k, eyeF n k < 18446744073709551616 := fun k => by unfold eyeF; split <;> decide
    refine ⟨hn, hn, rfl, (row_fn h1 (fun k hk => by rw [ho k hk]; exact hlt k) (by omega)).congr (fun k hk => ho k hk), finF_of (fun k _ => ?_)⟩
    unfold eyeF
    split <;> decide
  obtain ⟨N, hN⟩ : ∃ p, Hid (n * n = p) := ⟨_, rfl⟩
  rw [hN.out] at hpp HZ HPL HEND ⊢
  unfold MV at HZ
  have HR : Hid ((w.alloc (MBox 0 0 none 0 0)).heap[w.heap.size]? = some (MBox 0 0 none 0 0)) := nblkM _ _
  have HB : Hid (Below w.heap.size w (w.alloc (MBox 0 0 none 0 0))) := (Below.refl _ _).alloc (Nat.le_refl _) _
  have HSZ : Hid ((w.alloc (MBox 0 0 none 0 0)).heap.size = w.heap.size + 1) := World.size_alloc _ _
  obtain ⟨V, hV⟩ : ∃ V, Hid (w.alloc (MBox 0 0 none 0 0) = V) := ⟨_, rfl⟩
  rw [hV.out] at HR HB HSZ
  have hV' := hV.out
  unfold MBox at hV'
  clear hn
  go_enter Try.func17, Try.ntmps17
  go_wp2_with fail
  refine (HZ.out _).mono ?_
  rintro e w1 ⟨⟨g, rfl, hg, hrow⟩, hb1⟩
  have HSG : Hid (w.heap.size + 1 ≤ g ∧ g < w1.heap.size) := ⟨by have e2 := HSZ.out; omega, hrow.lt⟩
  have hal : Below w1.heap.size w1 (w1.alloc (MBox n n (some ⟨g, 0, none⟩) N N)) := (Below.refl _ _).alloc (Nat.le_refl _) _
  have HFR : Hid (FrF w (w1.alloc (MBox n n (some ⟨g, 0, none⟩) N N)) w1.heap.size w.heap.size (MBox n n (some ⟨g, 0, none⟩) N N) (MBox 0 0 none 0 0)) :=
    ⟨(HB.out.trans (hb1.mono HB.out.size)).trans (hal.mono (HB.out.trans (hb1.mono HB.out.size)).size), nblkM _ _, blkM (blkM HR.out hb1) hal⟩
  have HR0 : Hid ((w1.alloc (MBox n n (some ⟨g, 0, none⟩) N N)).rowIs g 51 N (fun _ => .float .f64 0)) := hrow.of_block (hal.block _ hrow.lt)
  obtain ⟨V1, hV1⟩ : ∃ V, Hid (w1.alloc (MBox n n (some ⟨g, 0, none⟩) N N) = V) := ⟨_, rfl⟩
  rw [hV1.out] at HFR HR0
  have hW1 := hV1.out
  obtain ⟨mb, hmb⟩ : ∃ V, Hid (w1.heap.size = V) := ⟨_, rfl⟩
  obtain ⟨rb, hrb⟩ : ∃ V, Hid (w.heap.size = V) := ⟨_, rfl⟩
  have HNE : Hid (mb ≠ g ∧ rb ≠ g ∧ w.heap.size ≤ g) := by
    have e1 := hmb.out; have e2 := hrb.out; have e4 := HSG.out
    show _ ∧ _ ∧ _
    omega
  rw [hmb.out, hrb.out] at HFR
  have hmb1 := hmb.out
  have hrb1 := hrb.out
  unfold MBox at hW1
  clear hal hg hrow hb1 HZ
  go_wp2_with fail
  go_loopw [20] (fun iv wr => ∃ (i : Nat) (o : Nat → Nat), i ≤ n ∧ iv = .int .i64 i ∧ Hid (wr.rowIs g 51 N (fun k => .float .f64 (o k))) ∧ Hid (∀ a b, a < n → b < n → o (a * n + b) = if a = b ∧ a < i then 4607182418800017408 else 0) ∧ Hid (FrF w wr mb rb (MBox n n (some ⟨g, 0, none⟩) N N) (MBox 0 0 none 0 0))) (fun iv _ => n - (intOf iv).toNat)
  case atStart => exact ⟨0, fun _ => 0, Nat.zero_le _, rfl, HR0, fun a b _ _ => by rw [if_neg (fun h => absurd h.2 (Nat.not_lt_zero a))], HFR⟩
  case round =>
    obtain ⟨i, o, hi, rfl, HR1, HP, HFW⟩ := hrel
    by_cases hlt : i < n
    · have hiI : (i : Int) < (n : Int) := by omega
      have HI := hid hlt
      have hkN := HPL.out i i hlt hlt
      have hp : i * n ≤ 144 := by omega
      have e1 : (i : Int) * (n : Int) = ((i * n : Nat) : Int) := by simp
      obtain ⟨p, hp'⟩ : ∃ p, Hid (i * n = p) := ⟨_, rfl⟩
      rw [hp'.out] at e1 hp hkN
      have e2 : (p : Int) + (i : Int) = ((p + i : Nat) : Int) := by simp
      obtain ⟨k, hk'⟩ : ∃ k, Hid (p + i = k) := ⟨_, rfl⟩
      have e3 := wrapM p (by omega)
      have e4 := wrapM k (by rw [← hk'.out]; omega)
      rw [hk'.out] at e2 hkN
      have k0 : (0 : Int) ≤ (k : Int) := by omega
      have k1 : (k : Int) < (N : Int) := by omega
      have cx := HR1.out.cell (i := k) hkN
      have fx := HR1.out.frozen k
      obtain ⟨m0, m1, m2⟩ := mcells_of HFW.out.2.1
      clear hlt hkN hp
      go_wp2_with fail
      have hkk : i * n + i = k := by rw [hp'.out, hk'.out]
      have hi1 := HI.out
      refine ⟨⟨i + 1, fun t => if t = k then 4607182418800017408 else o t, by omega, by go_num, ?_, fun a b ha hb => ?_, HFW.out.set HNE.out.1 HNE.out.2.1 HNE.out.2.2 _⟩, ?_⟩
      · refine (HR1.out.set k _).congr (fun t _ => ?_)
        by_cases ht : t = k <;> simp [ht]
      · by_cases h : a * n + b = k
        · obtain ⟨ea, eb⟩ := place_ne hb hi1 (h.trans hkk.symm)
          dsimp only
          rw [if_pos h, if_pos ⟨by omega, by omega⟩]
        · dsimp only
          rw [if_neg h, HP.out a b ha hb]
          by_cases hab : a = b ∧ a < i
          · rw [if_pos hab, if_pos ⟨hab.1, by omega⟩]
          · rw [if_neg hab, if_neg (fun hc => hab ⟨hc.1, by
              have : a ≠ i := fun hh => h (by rw [← hc.1, hh]; exact hkk)
              omega⟩)]
      · simp [intOf]; omega
    · obtain rfl : i = n := by omega
      obtain ⟨m0, m1, m2⟩ := mcells_of HFW.out.2.1
      obtain ⟨b0, b1, b2⟩ := mcells_of HFW.out.2.2
      have fz := frzM HFW.out.2.2
      go_wp2_with fail
      exact bodyPost_ret (v := .tuple #[.agg #[.int .i64 i, .int .i64 i, .slice (some ⟨g, 0, none⟩) N N], .int .i64 0]) (by simp [results, Try.results17, go_sem, b0, b1, b2]) rfl ⟨⟨g, rfl, HEND.out _ g o (HR1.out.of_block (StoM.keep (Ne.symm HNE.out.2.1))) HP.out⟩, StoM.below HFW.out.1 (by have := hrb.out; omega)⟩
end Go.Proofs.Ythnblidkbcficaa

namespace Go.Proofs.Ythnblidkbcficaa
open Go.RowKit Go.IntWalk

theorem stepq_append {ops : Array Oper} {o : Oper} {a : Act} {w : World} {K : Act → World → Prop} {Q : Exit → Act → World → Prop} {E : Prop}
    (hw : Region.wanted o (yielded ops a.tmps) = true) (s x : Operand) (hop : o.op = Op.call { callee := Callee.builtin Builtin.append, args := #[s, x], argTypes := #[27, 27] })
    (sv xv : Value) (hs : a.eval s = sv) (hx : a.eval x = xv)
    (hr : ∃ a' k' cap' w', (Builtin.append_ #[27, 27] o.type #[sv, xv]).run Try.prog w = .ok (.slice a' k' cap') w' ∧ K (a.put o.dst (.slice a' k' cap')) w') :
    if Region.wanted o (yielded ops a.tmps) = true then Oper.wp Try.prog o a w K Q else E := by
  rw [if_pos hw]
  obtain ⟨a', k', cap', w', hrun, hK⟩ := hr
  unfold Oper.wp
  simp [execOp, hop, resolve, invoke, builtin, hs, hx, hrun, Result.andThen]
  exact hK
/-- One number appended to numbers of one's own. -/
theorem appq_one (W : World) (base : Nat) (u : Value) (zs : List Nat) (z : Nat) (ho : Owns W base u zs) (hn : zs.length ≤ 100000000) (hb : base ≤ W.heap.size) :
    ∃ g c w5, (Builtin.append_ #[27, 27] 27 #[u, .slice (some ⟨W.heap.size, 0, none⟩) 1 1]).run Try.prog (W.alloc (.cells #[.float .f64 z] 51)) = .ok (.slice (some ⟨g, 0, none⟩) (zs.length + 1) c) w5 ∧ Owns w5 base (.slice (some ⟨g, 0, none⟩) (zs.length + 1) c) (zs ++ [z]) ∧ Below base W w5 := by
  obtain ⟨i0, hi, hz0, hz1, hz2⟩ := info_parts info_f
  have hown := ho
  unfold Owns at hown
  obtain ⟨v', w', hrun, r1, r2, _⟩ := run_append_own (P := Try.prog) (W.alloc (.cells #[.float .f64 z] 51)) base 27 27 51 i0 (.float .f64 0) 1 8 Try.underlying27 hi hz0 hz1 hz2 rfl (by decide) u _ _ (hown.alloc _) ⟨W.heap.size, 0, none⟩ 1 1 [.float .f64 z] rfl (by
    intro j u hj
    match j, hj with
    | 0, hj => simp at hj; subst hj; simp [Addr.add]) (by intro u hu; simp at hu; subst hu; rfl) (by unfold maxLen; omega) (by omega) (by simp; omega)
  have r1' := r1
  rcases r1' with ⟨_, ⟨_, h0⟩ | ⟨g', cap', cur, rfl, _⟩⟩
  · omega
  refine ⟨g', cap', w', hrun, ?_, ((Below.refl _ _).alloc hb _).grown r2 (by simp; omega) (fun k hk => (World.ownsRow.lt hown k hk).1)⟩
  show w'.ownsRow _ _ _ _ _ _
  rw [List.length_append, List.map_append]
  exact r1
theorem owns_fn {W : World} {base : Nat} {s : Option Addr} {k c : Nat} {g : Nat → Nat} (h : Owns W base (.slice s k c) ((List.range k).map g)) (hg : ∀ j, j < k → g j < 18446744073709551616) : FnM W s k c g := by
  unfold Owns at h
  rw [List.length_map, List.length_range] at h
  rcases h with ⟨_, ⟨e, h0⟩ | ⟨g1, cap, cur, e, h1, h2, h3, h4, h5, h6⟩⟩
  · cases e
    exact Or.inl ⟨rfl, rfl, rfl⟩
  · cases e
    refine Or.inr ⟨g1, 0, rfl, (Array.getElem?_eq_some_iff.1 h2).1, h3, h4, fun j hj => ⟨?_, hg j hj⟩⟩
    have e1 : (cur.toList.take (k * 1))[j]? = (((List.range k).map g).map (Value.float .f64))[j]? := by rw [h6]
    rw [List.getElem?_take, if_pos (by omega), List.getElem?_map, List.getElem?_map, List.getElem?_range hj] at e1
    have e2 : cur[j]? = some (.float .f64 (g j)) := by rw [← Array.getElem?_toList, e1]; rfl
    rw [Nat.zero_add]
    simp [World.cell?, h2, e2]
theorem owns_drew {W : World} {base : Nat} {v : Value} {xs : List Nat} (h : Owns W base v xs) : Owns W.drew base v xs := h
theorem owns_set {W : World} {base ob o : Nat} {v u : Value} {xs : List Nat} (h : Owns W base v xs) (hb : ob < base) : Owns (W.setCell ⟨ob, o, none⟩ u) base v xs := ownsRow_setCell_below h hb u
theorem mset2 {W : World} {b : Nat} {r c : Int} {sa sa2 : Option Addr} {n n2 cap cap2 : Nat} (h : W.heap[b]? = some (MBox r c sa n cap)) : (W.setCell ⟨b, 2, none⟩ (.slice sa2 n2 cap2)).heap[b]? = some (MBox r c sa2 n2 cap2) := by
  unfold MBox at h ⊢
  simp [World.setCell, Array.getElem?_modify, h]
theorem addq_run (x y : Nat) (h : FloatKind.f64.format.add x 0 = some y) (W : World) : (binOp .add 51 (.float .f64 x) (.float .f64 0)).run Try.prog W = .ok (.float .f64 y) W := run_float_arith W .add _ .f64 x 0 y h
theorem plusQ_add (x : Nat) (hx : x < 18446744073709551616) (fx : x % 9223372036854775808 < 9218868437227405312) : FloatKind.f64.format.add x 0 = some (plusQ x) := by
  by_cases c : x = 9223372036854775808
  · rw [c]; decide +kernel
  · rw [addq_zero x 0 hx fx (Or.inl rfl) c]
    unfold plusQ
    rw [if_neg c]
/-- The variables of plus as they lie; blocks from B on are the list's. -/
def FrP (w W : World) (B mb rb ob : Nat) (om or oo : Obj) : Prop := Below w.heap.size w W ∧ B ≤ W.heap.size ∧ W.heap[mb]? = some om ∧ W.heap[rb]? = some or ∧ W.heap[ob]? = some oo
theorem FrP.grow {w W W' : World} {B mb rb ob : Nat} {om or oo : Obj} (h : FrP w W B mb rb ob om or oo) (hw : w.heap.size ≤ B) (h1 : mb < B) (h2 : rb < B) (h3 : ob < B) (hb : Below B W W') : FrP w W' B mb rb ob om or oo :=
  ⟨h.1.trans (hb.mono hw), Nat.le_trans h.2.1 hb.size, (hb.block _ h1).trans h.2.2.1, (hb.block _ h2).trans h.2.2.2.1, (hb.block _ h3).trans h.2.2.2.2⟩
end Go.Proofs.Ythnblidkbcficaa

namespace Go.Proofs.Ythnblidkbcficaa
open Go.RowKit Go.IntWalk

theorem expq_fin {x : Nat} (fx : x % 9223372036854775808 < 9218868437227405312) : (x / 4503599627370496 % 2048 == 2047) = false := by
  rw [beq_eq_false_iff_ne]
  omega
theorem plusQ_twice (x : Nat) : plusQ (plusQ x) = plusQ x := by
  unfold plusQ
  by_cases c : x = 9223372036854775808
  · rw [if_pos c]; rfl
  · rw [if_neg c, if_neg c]
theorem eye_can (n i k : Nat) (hk : k < n) : canonOf (eyeF n (i * n + k)) = if k = i then 4607182418800017408 else 0 := by
  rw [eye_at hk]
  by_cases c : k = i
  · rw [if_pos c, if_pos c.symm]; decide
  · rw [if_neg c, if_neg (fun h => c h.symm)]; decide
theorem eye_canR (n j k : Nat) (hj : j < n) : canonOf (eyeF n (k * n + j)) = if k = j then 4607182418800017408 else 0 := by
  rw [eye_at hj]
  split <;> decide
/-- Numbers that are those of a matrix with noughts +0: finite. -/
theorem plus_ans {W : World} {r c n : Nat} {sa : Option Addr} {ka g : Nat} {f o : Nat → Nat} (ha : Gd W r c sa n ka f) (h : ∀ k, k < r * c → canonOf (o k) = plusQ (f k)) : AnsM r c (r * c) g o = .tuple #[.agg #[.int .i64 r, .int .i64 c, .slice (some ⟨g, 0, none⟩) (r * c) (r * c)], .int .i64 0] ∧ ∀ k, k < r * c → canonOf (o k) = canonOf (plusQ (f k)) := by
  have key : ∀ k, k < r * c → plusQ (f k) < 18446744073709551616 ∧ plusQ (f k) % 9223372036854775808 < 9218868437227405312 := fun k hk => by
    have hk2 : k < n := by rw [ha.2.2.1]; exact hk
    have := plusQ_fin (fn_lt ha.2.2.2.1 k hk2) (fin_exp (fn_lt ha.2.2.2.1 k hk2) ((finF_iff _ _).1 ha.2.2.2.2 k hk2))
    exact ⟨this.1, this.2.1⟩
  have hf : finF (r * c) o = true := finF_of (fun k hk => by
    unfold expOf
    rw [h k hk]
    exact expq_fin (key k hk).2)
  refine ⟨?_, fun k hk => by rw [h k hk, canq_fin (key k hk).2]⟩
  unfold AnsM MV
  rw [if_pos hf, if_pos hf]
theorem gd_fin {W : World} {r c n : Nat} {sa : Option Addr} {ka : Nat} {f : Nat → Nat} (ha : Gd W r c sa n ka f) (k : Nat) (hk : k < r * c) : f k < 18446744073709551616 ∧ f k % 9223372036854775808 < 9218868437227405312 := by
  have hk2 : k < n := by rw [ha.2.2.1]; exact hk
  exact ⟨fn_lt ha.2.2.2.1 k hk2, fin_exp (fn_lt ha.2.2.2.1 k hk2) ((finF_iff _ _).1 ha.2.2.2.2 k hk2)⟩
theorem Mul_eyeL (r c n : Nat) (sa : Option Addr) (ka g1 : Nat) (f : Nat → Nat) (w : World) (ho : Gd w r r (some ⟨g1, 0, none⟩) (r * r) (r * r) (eyeF r)) (ha : Gd w r c sa n ka f) :
    Calls Try.prog 59 #[.agg #[.int .i64 r, .int .i64 r, .slice (some ⟨g1, 0, none⟩) (r * r) (r * r)], .agg #[.int .i64 r, .int .i64 c, .slice sa n ka]] w fun e w' => (∃ (g : Nat) (o : Nat → Nat), e = .returned (.tuple #[.agg #[.int .i64 r, .int .i64 c, .slice (some ⟨g, 0, none⟩) (r * c) (r * c)], .int .i64 0]) ∧ FnM w' (some ⟨g, 0, none⟩) (r * c) (r * c) o ∧ ∀ k, k < r * c → canonOf (o k) = canonOf (plusQ (f k))) ∧ Below w.heap.size w w' := by
  refine (Mul_ok r r r c _ n _ sa _ ka _ f w ho ha rfl).mono ?_
  rintro e w' ⟨⟨g, o, rfl, hf, hv⟩, hb⟩
  obtain ⟨h1, h2⟩ := plus_ans (g := g) (o := o) ha (fun k hk => by
    obtain ⟨q1, q2, q3⟩ := split_k hk
    have := hv _ _ q1 q2
    rw [q3, dot_unit _ _ r (k / c) q1 (fun t ht => eye_can r (k / c) t ht) (fun t ht => gd_fin ha _ (place_lt ht q2)), q3] at this
    exact this)
  exact ⟨⟨g, o, by rw [h1], hf, h2⟩, hb⟩
theorem Mul_eyeR (r c n : Nat) (sa : Option Addr) (ka g1 : Nat) (f : Nat → Nat) (w : World) (ha : Gd w r c sa n ka f) (ho : Gd w c c (some ⟨g1, 0, none⟩) (c * c) (c * c) (eyeF c)) :
    Calls Try.prog 59 #[.agg #[.int .i64 r, .int .i64 c, .slice sa n ka], .agg #[.int .i64 c, .int .i64 c, .slice (some ⟨g1, 0, none⟩) (c * c) (c * c)]] w fun e w' => (∃ (g : Nat) (o : Nat → Nat), e = .returned (.tuple #[.agg #[.int .i64 r, .int .i64 c, .slice (some ⟨g, 0, none⟩) (r * c) (r * c)], .int .i64 0]) ∧ FnM w' (some ⟨g, 0, none⟩) (r * c) (r * c) o ∧ ∀ k, k < r * c → canonOf (o k) = canonOf (plusQ (f k))) ∧ Below w.heap.size w w' := by
  refine (Mul_ok r c c c n _ sa _ ka _ f _ w ha ho rfl).mono ?_
  rintro e w' ⟨⟨g, o, rfl, hf, hv⟩, hb⟩
  obtain ⟨h1, h2⟩ := plus_ans (g := g) (o := o) ha (fun k hk => by
    obtain ⟨q1, q2, q3⟩ := split_k hk
    have := hv _ _ q1 q2
    rw [q3, dotM_comm, dot_unit _ _ c (k % c) q2 (fun t _ => eye_canR c (k % c) t q2) (fun t ht => gd_fin ha _ (place_lt q1 ht)), q3] at this
    exact this)
  exact ⟨⟨g, o, by rw [h1], hf, h2⟩, hb⟩
theorem Sand_eye (r n : Nat) (sa : Option Addr) (ka g1 : Nat) (f : Nat → Nat) (w : World) (ho : Gd w r r (some ⟨g1, 0, none⟩) (r * r) (r * r) (eyeF r)) (ha : Gd w r r sa n ka f) (hs : ∀ i j, i < r → j < r → canonOf (f (i * r + j)) = canonOf (f (j * r + i))) :
    Calls Try.prog 61 #[.agg #[.int .i64 r, .int .i64 r, .slice (some ⟨g1, 0, none⟩) (r * r) (r * r)], .agg #[.int .i64 r, .int .i64 r, .slice sa n ka]] w fun e w' => (∃ (g : Nat) (o : Nat → Nat), e = .returned (.tuple #[.agg #[.int .i64 r, .int .i64 r, .slice (some ⟨g, 0, none⟩) (r * r) (r * r)], .int .i64 0]) ∧ FnM w' (some ⟨g, 0, none⟩) (r * r) (r * r) o ∧ ∀ k, k < r * r → canonOf (o k) = canonOf (plusQ (f k))) ∧ Below w.heap.size w w' := by
  refine (Sand_ok r r _ n _ sa _ ka _ f w ho ha).mono ?_
  rintro e w' ⟨⟨g, o, rfl, hf, hsym, o2, h2, h3⟩, hb⟩
  have k2 : ∀ i j, i < r → j < r → o2 (i * r + j) = plusQ (f (i * r + j)) := fun i j hi hj => by
    have := h2 i j hi hj
    rw [dot_unit _ _ r i hi (fun t ht => eye_can r i t ht) (fun t ht => gd_fin ha _ (place_lt ht hj))] at this
    have hfin := plusQ_fin (gd_fin ha _ (place_lt hi hj)).1 (gd_fin ha _ (place_lt hi hj)).2
    exact canon_val this (by omega)
  have k3 : ∀ i j, i < r → j ≤ i → canonOf (o (i * r + j)) = plusQ (f (i * r + j)) := fun i j hi hj => by
    have hj2 : j < r := by omega
    rw [h3 i j hi hj, dotM_comm, dot_unit _ _ r j hj2 (fun t ht => eye_can r j t ht) (fun t ht => by
      rw [k2 i t hi ht]
      have := plusQ_fin (gd_fin ha _ (place_lt hi ht)).1 (gd_fin ha _ (place_lt hi ht)).2
      exact ⟨this.1, this.2.1⟩), k2 i j hi hj2, plusQ_twice]
  have hs2 : ∀ i j, i < r → j < r → f (i * r + j) = f (j * r + i) := fun i j hi hj => by
    have := hs i j hi hj
    rw [canq_fin (gd_fin ha _ (place_lt hi hj)).2, canq_fin (gd_fin ha _ (place_lt hj hi)).2] at this
    exact this
  obtain ⟨h1, h4⟩ := plus_ans (g := g) (o := o) ha (fun k hk => by
    obtain ⟨q1, q2, q3⟩ := split_k hk
    rw [← q3]
    by_cases c : k % r ≤ k / r
    · exact k3 _ _ q1 c
    · rw [hsym _ _ q1 q2, k3 _ _ q2 (by omega), hs2 _ _ q1 q2])
  exact ⟨⟨g, o, by rw [h1], hf, h4⟩, hb⟩
end Go.Proofs.Ythnblidkbcficaa
