
/- The document's Of of any rows. (Written by mknfe.py.) -/
import Derived.Test.YtokeialkeadanaaP40
import Derived.Test.YtokeialkeadanaaP38
import Derived.Lib.SmallJoins
namespace Go.Proofs.Ytokeialkeadanaa
open Go.RowKit Go.IntWalk

/-- The first rows' numbers, one behind the other. -/
def ofL (X : Nat → List Nat) : Nat → List Nat
  | 0 => []
  | i + 1 => ofL X i ++ X i
theorem ofL_fin (X : Nat → List Nat) : ∀ n, finM (ofL X n) = allF X n
  | 0 => rfl
  | n + 1 => by
    show finM (ofL X n ++ X n) = (allF X n && finM (X n))
    rw [← ofL_fin X n]
    unfold finM
    rw [List.all_append]
theorem ofL_lt {X : Nat → List Nat} : ∀ {n : Nat}, (∀ j, j < n → ∀ x ∈ X j, x < 18446744073709551616) → ∀ x ∈ ofL X n, x < 18446744073709551616
  | 0, _, _, hx => absurd hx List.not_mem_nil
  | n + 1, h, x, hx => by
    rcases List.mem_append.1 hx with h1 | h1
    · exact ofL_lt (fun j hj => h j (by omega)) x h1
    · exact h n (by omega) x h1
theorem ofL_len {X : Nat → List Nat} {c : Nat} : ∀ {n : Nat}, (∀ j, j < n → (X j).length = c) → (ofL X n).length = n * c
  | 0, _ => by rw [Nat.zero_mul]; rfl
  | n + 1, h => by
    show (ofL X n ++ X n).length = (n + 1) * c
    rw [List.length_append, ofL_len (fun j hj => h j (by omega)), h n (by omega), Nat.add_mul, Nat.one_mul]
theorem ofL_at {X : Nat → List Nat} {c : Nat} : ∀ {n i j : Nat}, (∀ j, j < n → (X j).length = c) → i < n → j < c → (ofL X n).getD (i * c + j) 0 = (X i).getD j 0
  | 0, _, _, _, h, _ => absurd h (Nat.not_lt_zero _)
  | n + 1, i, j, h, hi, hj => by
    have hl := ofL_len (X := X) (c := c) (n := n) (fun j hj => h j (by omega))
    show (ofL X n ++ X n).getD (i * c + j) 0 = _
    rw [List.getD_eq_getElem?_getD, List.getD_eq_getElem?_getD]
    by_cases q : i < n
    · have h1 := place_lt q hj
      have ih := ofL_at (n := n) (fun j hj => h j (by omega)) q hj
      rw [List.getD_eq_getElem?_getD, List.getD_eq_getElem?_getD] at ih
      rw [List.getElem?_append_left (by omega)]
      exact ih
    · obtain rfl : i = n := by omega
      rw [List.getElem?_append_right (by omega), hl, Nat.add_sub_cancel_left]
/-- One variable as it was laid. -/
def FrM (w W : World) (b : Nat) (O : Obj) : Prop := Below w.heap.size w W ∧ W.heap[b]? = some O
theorem FrM.call {w W W' : World} {b : Nat} {O : Obj} (h : FrM w W b O) (hb : Below W.heap.size W W') : FrM w W' b O := ⟨h.1.trans (hb.mono h.1.size), blkM h.2 hb⟩
theorem FrM.drew {w W : World} {b : Nat} {O : Obj} (h : FrM w W b O) : FrM w W.drew b O := ⟨h.1.drew, h.2⟩
theorem mset1c {W : World} {b : Nat} {r c r2 : Int} {sa : Option Addr} {n cap : Nat} (h : W.heap[b]? = some (MBox r c sa n cap)) : (W.drew.setCell ⟨b, 1, none⟩ (.int .i64 r2)).heap[b]? = some (MBox r r2 sa n cap) := by
  have h' : W.drew.heap[b]? = some (MBox r c sa n cap) := h
  unfold MBox at h' ⊢
  simp [World.setCell, Array.getElem?_modify, h']
theorem mset2c {W : World} {b : Nat} {r c : Int} {sa s2 : Option Addr} {n cap n2 k2 : Nat} (h : W.heap[b]? = some (MBox r c sa n cap)) : (W.setCell ⟨b, 2, none⟩ (.slice s2 n2 k2)).heap[b]? = some (MBox r c s2 n2 k2) := by
  unfold MBox at h ⊢
  simp [World.setCell, Array.getElem?_modify, h]
theorem set_sme (W : World) (b o : Nat) (v : Value) (cs : Array Value) (T : TypeId) (h : W.heap[b]? = some (.cells cs T)) (hv : cs.setIfInBounds o v = cs) : W.setCell ⟨b, o, none⟩ v = W := by
  have e : (W.setCell ⟨b, o, none⟩ v).heap = W.heap := by
    apply Array.ext_getElem?
    intro i
    by_cases c : b = i
    · subst c
      simp only [World.setCell, Array.getElem?_modify, h]
      simp [hv]
    · simp only [World.setCell, Array.getElem?_modify, if_neg c]
  have e2 : W.setCell ⟨b, o, none⟩ v = { W with heap := (W.setCell ⟨b, o, none⟩ v).heap } := rfl
  rw [e2, e]
theorem msame {W : World} {b : Nat} {r c : Int} {sa : Option Addr} {n cap : Nat} (h : W.heap[b]? = some (MBox r c sa n cap)) : W.setCell ⟨b, 0, none⟩ (.int .i64 r) = W ∧ W.setCell ⟨b, 1, none⟩ (.int .i64 c) = W ∧ W.setCell ⟨b, 2, none⟩ (.slice sa n cap) = W :=
  ⟨set_sme W b 0 _ _ _ h rfl, set_sme W b 1 _ _ _ h rfl, set_sme W b 2 _ _ _ h rfl⟩
theorem World.ownsRow.drew' {W : World} {B k : Nat} {e : TypeId} {v : Value} {vs : List Value} (h : W.ownsRow B e 1 v k vs) : W.drew.ownsRow B e 1 v k vs := h
theorem own_ne {W : World} {B k b : Nat} {v : Value} {vs : List Value} {r c : Int} {sa : Option Addr} {n cap : Nat} (h : W.ownsRow B 57 1 v k vs) (hb : W.heap[b]? = some (MBox r c sa n cap)) : v.ownBlock ≠ some b := by
  intro e
  rcases h.2 with ⟨rfl, _⟩ | ⟨g, cp, cur, rfl, _, hg, _⟩
  · cases e
  · obtain rfl : g = b := by simpa [Value.ownBlock] using e
    rw [hg] at hb
    unfold MBox at hb
    simp at hb
theorem own_keep {W W' : World} {B k b : Nat} {v : Value} {vs : List Value} {r c : Int} {sa : Option Addr} {n cap : Nat} (h : W.ownsRow B 57 1 v k vs) (hb : W.heap[b]? = some (MBox r c sa n cap)) (hg : W.grownBy W' v.ownBlock) : W'.heap[b]? = some (MBox r c sa n cap) :=
  (hg.block b (Array.getElem?_eq_some_iff.1 hb).1 (fun e => own_ne h hb e.symm)).trans hb
theorem own_set2 {W : World} {B k b o : Nat} {v : Value} {vs : List Value} {r c : Int} {sa : Option Addr} {n cap : Nat} (h : W.ownsRow B 57 1 v k vs) (hb : W.heap[b]? = some (MBox r c sa n cap)) (x : Value) : (W.setCell ⟨b, o, none⟩ x).ownsRow B 57 1 v k vs := by
  have hne := own_ne h hb
  rcases h with ⟨h1, ⟨rfl, h2⟩ | ⟨g, cp, cur, rfl, h2, hg, h3⟩⟩
  · exact ⟨h1, Or.inl ⟨rfl, h2⟩⟩
  · exact ⟨h1, Or.inr ⟨g, cp, cur, rfl, h2, (set_keepM (fun q => hne (by rw [q]; rfl)) x).trans hg, h3⟩⟩
theorem own_set {W : World} {B k b : Nat} {v : Value} {vs : List Value} {r c : Int} {sa : Option Addr} {n cap : Nat} {x : Value} (h : W.drew.ownsRow B 57 1 v k vs) (hb : W.heap[b]? = some (MBox r c sa n cap)) : (W.drew.setCell ⟨b, 1, none⟩ x).ownsRow B 57 1 v k vs := own_set2 h (W := W.drew) hb x
theorem own_fl {W : World} {B k cap : Nat} {ta : Option Addr} {ys : List Nat} (h : W.ownsRow B 57 1 (.slice ta k cap) k (ys.map (.float .f64))) (hy : ∀ x ∈ ys, x < 18446744073709551616) : FlM W ta k cap ys := by
  have hlen : ys.length = k := by have := h.1; rw [List.length_map, Nat.mul_one] at this; exact this
  refine ⟨hlen, hy, ?_⟩
  rcases h.2 with ⟨e, h2⟩ | ⟨g, cp, cur, e, h2, hg, h3, h4, h5, h6⟩
  · cases e; exact Or.inl ⟨rfl, h2, rfl⟩
  · cases e
    refine Or.inr ⟨g, 0, rfl, (Array.getElem?_eq_some_iff.1 hg).1, h3, h4, fun j hj => ?_⟩
    have := h.cells (g := g) rfl j (.float .f64 (ys.getD j 0)) (by rw [List.getElem?_map, List.getD_eq_getElem?_getD, List.getElem?_eq_getElem (by omega)]; rfl)
    rw [Go.WideShapes.add_plain] at this
    exact this
theorem info_fe0 : (Try.prog.info? 57).map (fun i => (i.zero, i.size, i.bytes)) = some (some (.float .f64 0), 1, 8) := by kernel_rfl
theorem info_fe : ∃ i, Try.prog.info? 57 = some i ∧ i.zero = some (.float .f64 0) ∧ i.size = 1 ∧ i.bytes = 8 := by
  have h := info_fe0
  cases hi : Try.prog.info? 57 with
  | none => rw [hi] at h; cases h
  | some i =>
    rw [hi] at h
    simp only [Option.map_some, Option.some.injEq, Prod.mk.injEq] at h
    exact ⟨i, rfl, h.1, h.2.1, h.2.2⟩
/-- Numbers appended to a row of one's own. -/
theorem app_fl {W : World} {B k cap m kb : Nat} {ta sb : Option Addr} {ys xs : List Nat} (ty : TypeId) (h : W.ownsRow B 57 1 (.slice ta k cap) k (ys.map (.float .f64))) (hl : FlM W sb m kb xs) (hk : k + m ≤ 1000) (hB : B ≤ W.heap.size) :
    ∃ ta2 cap2 w', (Builtin.append_ #[27, 27] ty #[.slice ta k cap, .slice sb m kb]).run Try.prog W = .ok (.slice ta2 (k + m) cap2) w' ∧ w'.ownsRow B 57 1 (.slice ta2 (k + m) cap2) (k + m) (ys.map (.float .f64) ++ xs.map (.float .f64)) ∧ W.grownBy w' (Value.slice ta k cap).ownBlock := by
  obtain ⟨i, hi, hz, hsz, hby⟩ := info_fe
  obtain ⟨hlen, hx, ⟨rfl, rfl, rfl⟩ | ⟨b, off, rfl, hb, h3, h4, hc⟩⟩ := hl
  · have hx0 : xs = [] := List.length_eq_zero_iff.1 hlen
    subst hx0
    refine ⟨ta, cap, W, ?_, by simpa using h, ⟨rfl, rfl, rfl, Nat.le_refl _, fun _ _ _ => rfl⟩⟩
    rcases h.2 with ⟨e, h2⟩ | ⟨g, cp, cur, e, h2, hg, h3, h4, h5, h6⟩
    · cases e
      simp [Builtin.append_, run_underlying Try.underlying27, sizeOf, typeInfo, hi, Builtin.lenOf, Builtin.firstCells]
    · cases e
      simp [Builtin.append_, run_underlying Try.underlying27, sizeOf, typeInfo, hi, Builtin.lenOf, Builtin.firstCells, storeCells, h3]
  · obtain ⟨v', w', hr, hown', hgr, _⟩ := run_append_own (P := Try.prog) W B 27 ty 57 i (.float .f64 0) 1 8 Try.underlying27 hi hz hsz hby rfl (by decide) (.slice ta k cap) k (ys.map (.float .f64)) h ⟨b, off, none⟩ m kb (xs.map (.float .f64)) (by simp [hlen]) (fun j u hj => by
      rw [List.getElem?_map] at hj
      obtain ⟨x, hxx, rfl⟩ := Option.map_eq_some_iff.1 hj
      obtain ⟨hjl, rfl⟩ := List.getElem?_eq_some_iff.1 hxx
      rw [Go.WideShapes.add_plain, hc j (by omega), List.getD_eq_getElem?_getD, hxx]
      rfl) (by intro u hu; obtain ⟨x, _, rfl⟩ := List.mem_map.1 hu; rfl) (by unfold maxLen; omega) (by omega) hB
    rcases Joins.ownsRow_forms hown' with ⟨rfl, h1⟩ | ⟨g, cp, rfl⟩
    · refine ⟨none, 0, w', ?_, ?_, hgr⟩
      · rw [hr, h1]
      · rw [h1] at hown' ⊢; exact hown'
    · exact ⟨_, _, w', hr, hown', hgr⟩
/-- An append as one step of a region that draws. -/
theorem step_apf {ops : Array Oper} {o : Oper} {a : Act} {w w' : World} {K : Act → World → Prop} {Q : Exit → Act → World → Prop} {E : Prop} {r : Value} (T : TypeId)
    (hg : o.guard = none) (s x : Operand) (hop : o.op = Op.call { callee := Callee.builtin Builtin.append, args := #[s, x], argTypes := #[T, T] })
    (u v : Value) (hs : a.eval s = u) (hx : a.eval x = v) (hrun : (Builtin.append_ #[T, T] o.type #[u, v]).run Try.prog w = .ok r w') (hK : K (a.put o.dst r) w') :
    if Region.wanted o (yielded ops a.tmps) = true then Oper.wp Try.prog o a w K Q else E := by
  have hw : Region.wanted o (yielded ops a.tmps) = true := by simp [Region.wanted, hg]
  rw [if_pos hw]
  unfold Oper.wp
  simp [execOp, hop, resolve, invoke, builtin, hs, hx, hrun, Result.andThen]
  exact hK
/-- Where the document's Of stands behind so many rows. -/
def OfSt (w W : World) (mb rb n c : Nat) (X : Nat → List Nat) (i : Nat) : Prop := FrM w W rb (MBox 0 0 none 0 0) ∧ ∃ ta cap, FrM w W mb (MBox n ((if i = 0 then 0 else c : Nat) : Int) ta (i * c) cap) ∧ W.ownsRow w.heap.size 57 1 (.slice ta (i * c) cap) (i * c) ((ofL X i).map (.float .f64))
/-- What the document's Of hands back, of rows and columns that may be. -/
def OfL (n c : Nat) (M : Nat → Nat) (X : Nat → List Nat) (e : Ending) (w' : World) : Prop := (samB M n = false ∧ e = .returned (.tuple #[.agg #[.int .i64 0, .int .i64 0, .slice none 0 0], .int .i64 3])) ∨ (samB M n = true ∧ ∃ (ta : Option Addr) (cap : Nat), e = .returned (.tuple #[.agg #[.int .i64 n, .int .i64 c, .slice ta (n * c) cap], .int .i64 (if allF X n = true then 0 else 4)]) ∧ FlM w' ta (n * c) cap (ofL X n))
set_option maxRecDepth 4000 in
set_option maxHeartbeats 1000000 in
theorem rOnly_any (r c : Int) (sa : Option Addr) (n ka : Nat) (xs : List Nat) (w : World) (h : FlM w sa n ka xs) (hn : n ≤ 17592186043904) : Calls Try.prog 42 #[.agg #[.int .i64 r, .int .i64 c, .slice sa n ka]] w fun e w' => e = .returned (.int .i64 (if finM xs = true then 0 else 4)) ∧ Below w.heap.size w w' := by
  have HA : Hid ((w.alloc (MBox r c sa n ka)).heap[w.heap.size]? = some (MBox r c sa n ka)) := nblkM _ _
  have HB : Hid (Below w.heap.size w (w.alloc (MBox r c sa n ka))) := (Below.refl _ _).alloc (Nat.le_refl _) _
  have HF := hid (rall_any sa n ka xs _ (h.below HB.out) hn)
  obtain ⟨F, hF⟩ : ∃ F, Hid (finM xs = F) := ⟨_, rfl⟩
  rw [hF.out] at HF
  rw [hF.out]
  obtain ⟨V, hV⟩ : ∃ V, Hid (w.alloc (MBox r c sa n ka) = V) := ⟨_, rfl⟩
  rw [hV.out] at HA HB HF
  have hV' := hV.out
  obtain ⟨x0, x1, x2⟩ := mcells_of HA.out
  unfold MBox at hV'
  have HI := hid (fun W => If_any (!F) 4 W)
  rw [show (if (!F) = true then (4 : Int) else 0) = if F = true then 0 else 4 from by cases F <;> rfl] at HI
  obtain ⟨E, hE⟩ : ∃ E, Hid ((if F = true then 0 else 4 : Int) = E) := ⟨_, rfl⟩
  rw [hE.out] at HI
  rw [hE.out]
  clear h hn
  go_enter Try.func42, Try.ntmps42
  go_wp2_with fail
  refine HF.out.mono ?_
  rintro e ww ⟨rfl, hw⟩
  rw [hw]
  clear hw
  go_wp2_with fail
  refine (HI.out _).mono ?_
  rintro e ww ⟨rfl, hw⟩
  rw [hw]
  clear hw
  go_wp2_with fail
  go_ret
  exact ⟨rfl, HB.out⟩
set_option maxRecDepth 4000 in
set_option maxHeartbeats 4000000 in
theorem rOf_rng1 (la : Option Addr) (n lc : Nat) (SA : Nat → Option Addr) (M K : Nat → Nat) (X : Nat → List Nat) (w : World) (_h : LsF w la n SA M K X) (hn : 12 < n) : Calls Try.prog 18 #[.slice la n lc] w fun e w' => e = .returned (NonM 1) ∧ Below w.heap.size w w' := by
  have hnI : (12 : Int) < (n : Int) := by omega
  have HR : Hid ((w.alloc (MBox 0 0 none 0 0)).heap[w.heap.size]? = some (MBox 0 0 none 0 0)) := nblkM _ _
  have HB : Hid (Below w.heap.size w (w.alloc (MBox 0 0 none 0 0))) := (Below.refl _ _).alloc (Nat.le_refl _) _
  obtain ⟨V, hV⟩ : ∃ V, Hid (w.alloc (MBox 0 0 none 0 0) = V) := ⟨_, rfl⟩
  obtain ⟨rb, hrb⟩ : ∃ V, Hid (w.heap.size = V) := ⟨_, rfl⟩
  rw [hV.out] at HR HB
  rw [hrb.out] at HR
  have hV' := hV.out
  have hrb' := hrb.out
  obtain ⟨y0, y1, y2⟩ := mcells_of HR.out
  have fz := frzM HR.out
  unfold MBox at hV'
  unfold NonM
  unfold MV
  clear hn
  go_enter Try.func18, Try.ntmps18
  go_wp2_with fail
  exact bodyPost_ret (v := .tuple #[MV 0 0 none 0 0, .int .i64 1]) (by simp [results, Try.results18, go_sem, y0, y1, y2, MV]) rfl ⟨rfl, by first | exact (below_p (StoM.below (b := rb) (r := 0) (c := 0) (sa := none) (n := 0) (cap := 0) HB.out (by rw [hrb.out]; exact Nat.le_refl _)) hrb.out).1 | exact (below_p (StoM.below (b := rb) (r := 0) (c := 0) (sa := none) (n := 0) (cap := 0) HB.out (by rw [hrb.out]; exact Nat.le_refl _)) hrb.out).2⟩
set_option maxRecDepth 4000 in
set_option maxHeartbeats 4000000 in
theorem rOf_rng2 (la : Option Addr) (n lc : Nat) (SA : Nat → Option Addr) (M K : Nat → Nat) (X : Nat → List Nat) (w : World) (h : LsF w la n SA M K X) (hn : n ≤ 12 ∧ 0 < n) (hm : 12 < M 0) : Calls Try.prog 18 #[.slice la n lc] w fun e w' => e = .returned (NonM 1) ∧ Below w.heap.size w w' := by
  obtain ⟨lb, lo, rfl, hbl, hcl⟩ := h.2 (by omega)
  have hc0 := hcl 0 (by omega)
  rw [Nat.add_zero] at hc0
  obtain ⟨c, hcc⟩ : ∃ c, Hid (M 0 = c) := ⟨_, rfl⟩
  obtain ⟨s0, hs0⟩ : ∃ c, Hid (SA 0 = c) := ⟨_, rfl⟩
  obtain ⟨k0, hk0⟩ : ∃ c, Hid (K 0 = c) := ⟨_, rfl⟩
  rw [hcc.out, hs0.out, hk0.out] at hc0
  rw [hcc.out] at hm
  have hnI : ¬ (12 : Int) < (n : Int) := by omega
  have hn0 : (0 : Int) < (n : Int) := by omega
  have hmI : (12 : Int) < (c : Int) := by omega
  have HR : Hid ((w.alloc (MBox 0 0 none 0 0)).heap[w.heap.size]? = some (MBox 0 0 none 0 0)) := nblkM _ _
  have HB : Hid (Below w.heap.size w (w.alloc (MBox 0 0 none 0 0))) := (Below.refl _ _).alloc (Nat.le_refl _) _
  obtain ⟨V, hV⟩ : ∃ V, Hid (w.alloc (MBox 0 0 none 0 0) = V) := ⟨_, rfl⟩
  obtain ⟨rb, hrb⟩ : ∃ V, Hid (w.heap.size = V) := ⟨_, rfl⟩
  rw [hV.out] at HR HB
  rw [hrb.out] at HR
  have hV' := hV.out
  have hrb' := hrb.out
  obtain ⟨y0, y1, y2⟩ := mcells_of HR.out
  have fz := frzM HR.out
  unfold MBox at hV'
  have hc1 : V.cell? ⟨lb, lo, none⟩ = some (.slice s0 c k0) := (HB.out.cell (p := ⟨lb, lo, none⟩) hbl).trans hc0
  unfold NonM
  unfold MV
  clear h hn hm hcl hc0 hbl
  go_enter Try.func18, Try.ntmps18
  go_wp2_with fail
  exact bodyPost_ret (v := .tuple #[MV 0 0 none 0 0, .int .i64 1]) (by simp [results, Try.results18, go_sem, y0, y1, y2, MV]) rfl ⟨rfl, by first | exact (below_p (StoM.below (b := rb) (r := 0) (c := 0) (sa := none) (n := 0) (cap := 0) HB.out (by rw [hrb.out]; exact Nat.le_refl _)) hrb.out).1 | exact (below_p (StoM.below (b := rb) (r := 0) (c := 0) (sa := none) (n := 0) (cap := 0) HB.out (by rw [hrb.out]; exact Nat.le_refl _)) hrb.out).2⟩
set_option maxRecDepth 4000 in
set_option maxHeartbeats 4000000 in
theorem rOf_main (la : Option Addr) (n lc : Nat) (SA : Nat → Option Addr) (M K : Nat → Nat) (X : Nat → List Nat) (w : World) (h : LsF w la n SA M K X) (hn : n ≤ 12) (hm : 0 < n → M 0 ≤ 12) : Calls Try.prog 18 #[.slice la n lc] w fun e w' => OfL n (if n = 0 then 0 else M 0) M X e w' ∧ Below w.heap.size w w' := by
  have HCC : Hid (∃ c s0 k0, c ≤ 12 ∧ (if n = 0 then 0 else M 0) = c ∧ (0 < n → M 0 = c ∧ SA 0 = s0 ∧ K 0 = k0)) := by
    by_cases h0 : n = 0
    · exact ⟨0, none, 0, by omega, by rw [if_pos h0], fun q => absurd h0 (by omega)⟩
    · exact ⟨M 0, SA 0, K 0, hm (by omega), by rw [if_neg h0], fun _ => ⟨rfl, rfl, rfl⟩⟩
  obtain ⟨c, s0, k0, hc12, hce, h00⟩ := HCC.out
  rw [hce]
  have HC12 := hid hc12
  have H00 := hid h00
  have HLS := hid h
  have HN12 := hid hn
  have hnI : ¬ (12 : Int) < (n : Int) := by omega
  have hcI : ¬ (12 : Int) < (c : Int) := by omega
  have HR : Hid ((w.alloc (MBox 0 0 none 0 0)).heap[w.heap.size]? = some (MBox 0 0 none 0 0)) := nblkM _ _
  have HB : Hid (Below w.heap.size w (w.alloc (MBox 0 0 none 0 0))) := (Below.refl _ _).alloc (Nat.le_refl _) _
  obtain ⟨V, hV⟩ : ∃ V, Hid (w.alloc (MBox 0 0 none 0 0) = V) := ⟨_, rfl⟩
  obtain ⟨rb, hrb⟩ : ∃ V, Hid (w.heap.size = V) := ⟨_, rfl⟩
  rw [hV.out] at HR HB
  rw [hrb.out] at HR
  have hV' := hV.out
  have hrb' := hrb.out
  obtain ⟨y0, y1, y2⟩ := mcells_of HR.out
  have fz := frzM HR.out
  unfold MBox at hV'
  have HFO : Hid (FrM w V rb (MBox 0 0 none 0 0)) := ⟨HB.out, HR.out⟩
  have hal : Below V.heap.size V (V.alloc (MBox n 0 none 0 0)) := (Below.refl _ _).alloc (Nat.le_refl _) _
  have HFO1 := hid (HFO.out.call hal)
  have HFM1 : Hid (FrM w (V.alloc (MBox n 0 none 0 0)) V.heap.size (MBox n 0 none 0 0)) := ⟨HFO1.out.1, nblkM _ _⟩
  obtain ⟨V1, hV1⟩ : ∃ W, Hid (V.alloc (MBox n 0 none 0 0) = W) := ⟨_, rfl⟩
  obtain ⟨mb, hmb⟩ : ∃ t, Hid (V.heap.size = t) := ⟨_, rfl⟩
  have HNE : Hid (mb ≠ rb) := by
    have e1 := (Array.getElem?_eq_some_iff.1 HR.out).1; have e2 := hmb.out
    show mb ≠ rb
    omega
  have HMW : Hid (w.heap.size ≤ mb) := by
    have e1 := HB.out.size; have e2 := hmb.out
    show _ ≤ _
    omega
  rw [hV1.out] at HFO1 HFM1
  rw [hmb.out] at HFM1
  have hV1' := hV1.out
  have hmb' := hmb.out
  unfold MBox at hV1'
  have HST : Hid (OfSt w V1 mb rb n c X 0) := ⟨HFO1.out, none, 0, by rw [if_pos rfl, Nat.zero_mul]; exact HFM1.out, by rw [Nat.zero_mul]; exact World.ownsRow_nil _ _ _ _⟩
  have HC0 : Hid (0 < n → ∃ lb lo, la = some ⟨lb, lo, none⟩ ∧ V.cell? ⟨lb, lo, none⟩ = some (.slice s0 c k0)) := fun q => by
    obtain ⟨lb, lo, e, hbl, hcl⟩ := h.2 (by omega)
    have hc0 := hcl 0 q
    obtain ⟨e1, e2, e3⟩ := h00 q
    rw [Nat.add_zero, e1, e2, e3] at hc0
    exact ⟨lb, lo, e, (HB.out.cell (p := ⟨lb, lo, none⟩) hbl).trans hc0⟩
  have HCZ : Hid (n = 0 → c = 0) := fun q => by rw [if_pos q] at hce; exact hce.symm
  clear h hn hm hce h00 hc12 hal HCC
  obtain ⟨u0, u1, u2⟩ := msame HFM1.out.2
  obtain ⟨v0, v1, v2⟩ := mcells_of HFM1.out.2
  have fv := frzM HFM1.out.2
  have n12N : ¬ 12 < n := by have := HN12.out; omega
  have c12N : ¬ 12 < c := by have := HC12.out; omega
  by_cases h0 : n = 0
  · have hnz : ¬ (0 : Int) < (n : Int) := by omega
    have hnN : ¬ 0 < n := by omega
    have HZC : Hid (n = 0 → c = 0) := fun _ => HCZ.out h0
    clear h0
    go_enter Try.func18, Try.ntmps18
    go_wp2_with fail
    go_loopw [5] (fun iv wr => ∃ i : Nat, i ≤ n ∧ iv = .int .i64 i ∧ Hid (samB M i = true) ∧ Hid (OfSt w wr mb rb n c X i)) (fun iv _ => n - (intOf iv).toNat)
    case atStart => exact ⟨0, Nat.zero_le _, rfl, rfl, HST⟩
    case round =>
      obtain ⟨i, hi, rfl, HS, HST⟩ := hrel
      obtain ⟨hfo, ta, cap, hfm, how⟩ := HST.out
      have HFO := hid hfo
      have HFM := hid hfm
      have HOW := hid how
      have n12 := HN12.out
      obtain ⟨y0, y1, y2⟩ := mcells_of hfo.2
      have fz := frzM hfo.2
      obtain ⟨C, hC⟩ : ∃ C : Nat, Hid ((if i = 0 then 0 else c) = C) := ⟨_, rfl⟩
      obtain ⟨k, hk⟩ : ∃ k : Nat, Hid (i * c = k) := ⟨_, rfl⟩
      rw [hC.out, hk.out] at HFM
      rw [hk.out] at HOW
      clear hfo hfm how HST
      by_cases hlt : i < n
      · exact absurd hlt (by omega)
      · obtain rfl : n = i := by omega
        have HFL : Hid (FlM wr.drew ta k cap (ofL X n)) := own_fl (HOW.out) (ofL_lt (fun j hj => (HLS.out.1 j hj).2.1))
        have HNC : Hid (k ≤ 144) := by have e1 := hk.out; have e2 := HC12.out; have e4 : n * c ≤ 12 * 12 := Nat.mul_le_mul HN12.out e2; show k ≤ 144; omega
        have HON := hid (fun W (hW : Below wr.drew.heap.size wr.drew W) => rOnly_any n C ta k cap (ofL X n) W (HFL.out.below hW) (by have := HNC.out; omega))
        rw [ofL_fin X n] at HON
        have HCE : Hid (C = c) := by
          show C = c
          rw [← hC.out]
          by_cases h0 : n = 0
          · rw [if_pos h0]; exact (HZC.out h0).symm
          · rw [if_neg h0]
        obtain ⟨E, hE⟩ : ∃ E, Hid ((if allF X n = true then 0 else 4 : Int) = E) := ⟨_, rfl⟩
        rw [hE.out] at HON
        have HKM : Hid (∀ W, Hid (FrM w W mb (MBox n C ta k cap)) → (W.cell? ⟨mb, 0, none⟩ = some (.int .i64 n) ∧ W.cell? ⟨mb, 1, none⟩ = some (.int .i64 C) ∧ W.cell? ⟨mb, 2, none⟩ = some (.slice ta k cap)) ∧ Hid (FrM w W mb (MBox n C ta k cap))) := fun W hW => by
          obtain ⟨a0, a1, a2⟩ := mcells_of hW.out.2
          exact ⟨⟨a0, a1, a2⟩, hW⟩
        have HQ0 : Hid (FrM w wr.drew rb (MBox 0 0 none 0 0)) := HFO.out.drew
        have HQB : Hid (FrM w wr.drew mb (MBox n C ta k cap)) := HFM.out.drew
        go_wp2_with fail
        refine wp_region_held_drew (S := fun W => (W.cell? ⟨mb, 0, none⟩ = some (.int .i64 n) ∧ W.cell? ⟨mb, 1, none⟩ = some (.int .i64 C) ∧ W.cell? ⟨mb, 2, none⟩ = some (.slice ta k cap)) ∧ Hid (FrM w W mb (MBox n C ta k cap))) (by kernel_rfl) (HKM.out _ HQB) (fun hHeld => ?_)
        refine take_at 0 55 (.agg #[.int .i64 n, .int .i64 C, .slice ta k cap]) rfl rfl (by kernel_rfl) (by kernel_rfl) (by kernel_rfl) (fun _ _ _ h => h) (Or.inl ⟨by rfl, fun w hSw => by (try dsimp only at hSw); go_simp⟩) (by assumption) ?_
        simp only [Act.put, List.setIfInBounds_toArray, List.set_cons_zero, List.set_cons_succ]
        refine take_at 1 56 (.agg #[.int .i64 n, .int .i64 C, .slice ta k cap]) rfl rfl (by kernel_rfl) (by kernel_rfl) (by kernel_rfl) (fun _ _ _ h => h) (Or.inl ⟨by rfl, fun w hSw => by (try dsimp only at hSw); go_simp⟩) (by assumption) ?_
        simp only [Act.put, List.setIfInBounds_toArray, List.set_cons_zero, List.set_cons_succ]
        refine wpAnyH_ready (rs := [2]) (by kernel_rfl) (by simp) ?_
        refine AllReadyH.cons (o := _) rfl (fun K hK => ?_) AllReadyH.nil
        go_simp
        refine (HON.out _ (Below.refl _ _)).mono ?_
        rintro e u1 ⟨rfl, hu⟩
        have HQ1 := hid (HQ0.out.call hu)
        have HQM : Hid (FrM w u1 mb (MBox n C ta k cap)) := HQB.out.call hu
        have HF1 := hid (HFL.out.below hu)
        clear hu
        go_wp2_with fail
        refine hK.out _ _ (HKM.out _ HQM) (fun hHeld1 => ?_)
        clear hK K
        try simp only [Act.put, List.setIfInBounds_toArray, List.set_cons_zero, List.set_cons_succ]
        refine wpAnyH_ready (rs := [3]) (by kernel_rfl) (by simp) ?_
        refine AllReadyH.cons (o := _) rfl (fun K hK => ?_) AllReadyH.nil
        obtain ⟨z0, z1, z2⟩ := mcells_of HQ1.out.2
        have fzz := frzM HQ1.out.2
        have HQN : Hid (FrM w (StoM u1 rb n C ta k cap) mb (MBox n C ta k cap)) := ⟨StoM.below HQM.out.1 (by rw [hrb.out]; exact Nat.le_refl _), (StoM.keep HNE.out).trans HQM.out.2⟩
        have HQR : Hid ((StoM u1 rb n C ta k cap).heap[rb]? = some (MBox n C ta k cap)) := mset HQ1.out.2
        have HFQ : Hid (FlM (StoM u1 rb n C ta k cap) ta k cap (ofL X n)) := sto_fl HF1.out HQ1.out.2
        obtain ⟨U2, hU2⟩ : ∃ V, Hid (StoM u1 rb n C ta k cap = V) := ⟨_, rfl⟩
        rw [hU2.out] at HQN HQR HFQ
        have hU2' := hU2.out
        unfold StoM at hU2'
        go_simp
        go_wp2_with fail
        refine hK.out _ _ (HKM.out _ HQN) (fun hHeld2 => ?_)
        clear hK K
        try simp only [Act.put, List.setIfInBounds_toArray, List.set_cons_zero, List.set_cons_succ]
        refine take_at 4 3 (.int .i64 E) rfl rfl (by kernel_rfl) (by kernel_rfl) (by kernel_rfl) (fun _ _ _ h => h) (Or.inl ⟨by rfl, fun w hSw => by (try dsimp only at hSw); go_simp⟩) (by assumption) ?_
        simp only [Act.put, List.setIfInBounds_toArray, List.set_cons_zero, List.set_cons_succ]
        refine wpAnyH_done (by kernel_rfl) ?_ _
        go_wp2_with fail
        have hne := HNE.out
        obtain ⟨b0, b1, b2⟩ := mcells_of HQR.out
        exact bodyPost_ret (v := .tuple #[.agg #[.int .i64 n, .int .i64 C, .slice ta k cap], .int .i64 E]) (by simp [results, Try.results18, go_sem, b0, b1, b2]) rfl ⟨Or.inr ⟨HS.out, ta, cap, by rw [hE.out, ← HCE.out, show n * C = k by rw [HCE.out]; exact hk.out], by rw [← HCE.out, show n * C = k by rw [HCE.out]; exact hk.out]; exact HFQ.out⟩, by first | exact HQN.out.1 | exact (below_p HQN.out.1 hrb.out).2⟩
  · have hnz : (0 : Int) < (n : Int) := by omega
    have hnN : 0 < n := by omega
    have HZC : Hid (n = 0 → c = 0) := fun q => absurd q h0
    obtain ⟨lb, lo, hla, hc1⟩ := HC0.out (by omega)
    subst hla
    clear h0 HC0
    go_enter Try.func18, Try.ntmps18
    go_wp2_with fail
    go_loopw [5] (fun iv wr => ∃ i : Nat, i ≤ n ∧ iv = .int .i64 i ∧ Hid (samB M i = true) ∧ Hid (OfSt w wr mb rb n c X i)) (fun iv _ => n - (intOf iv).toNat)
    case atStart => exact ⟨0, Nat.zero_le _, rfl, rfl, HST⟩
    case round =>
      obtain ⟨i, hi, rfl, HS, HST⟩ := hrel
      obtain ⟨hfo, ta, cap, hfm, how⟩ := HST.out
      have HFO := hid hfo
      have HFM := hid hfm
      have HOW := hid how
      have n12 := HN12.out
      obtain ⟨y0, y1, y2⟩ := mcells_of hfo.2
      have fz := frzM hfo.2
      obtain ⟨C, hC⟩ : ∃ C : Nat, Hid ((if i = 0 then 0 else c) = C) := ⟨_, rfl⟩
      obtain ⟨k, hk⟩ : ∃ k : Nat, Hid (i * c = k) := ⟨_, rfl⟩
      rw [hC.out, hk.out] at HFM
      rw [hk.out] at HOW
      clear hfo hfm how HST
      by_cases hlt : i < n
      · have hiI : (i : Int) < (n : Int) := by omega
        have hnI0 : (0 : Int) < (n : Int) := by omega
        obtain ⟨lb', lo', hq, hbl, hcl⟩ := HLS.out.2 (by omega)
        cases hq
        obtain ⟨e1, e2, e3⟩ := H00.out (by omega)
        have hc0 := hcl 0 (by omega)
        rw [Nat.add_zero, e1, e2, e3] at hc0
        have hci := hcl i hlt
        have HFX := hid (HLS.out.1 i hlt)
        have HSI : Hid (M i ≠ c → samB M n = false) := fun q => sam_no hlt (by rw [e1]; exact q)
        have HSJ : Hid (M i = c → samB M (i + 1) = true) := fun q => by
          show (samB M i && decide (M i = M 0)) = true
          rw [HS.out, e1, decide_eq_true q]; rfl
        obtain ⟨mi, hmi⟩ : ∃ t, Hid (M i = t) := ⟨_, rfl⟩
        obtain ⟨si, hsi⟩ : ∃ t, Hid (SA i = t) := ⟨_, rfl⟩
        obtain ⟨ki, hki⟩ : ∃ t, Hid (K i = t) := ⟨_, rfl⟩
        rw [hmi.out, hsi.out, hki.out] at hci HFX
        rw [hmi.out] at HSI HSJ
        have HI := hid hlt
        have HKS : Hid (∀ W, Hid (FrM w W rb (MBox 0 0 none 0 0)) → (W.cell? ⟨lb, lo, none⟩ = some (.slice s0 c k0) ∧ W.cell? ⟨lb, lo + i, none⟩ = some (.slice si mi ki)) ∧ Hid (FrM w W rb (MBox 0 0 none 0 0))) := fun W hW => ⟨⟨(hW.out.1.cell (p := ⟨lb, lo, none⟩) hbl).trans hc0, (hW.out.1.cell (p := ⟨lb, lo + i, none⟩) hbl).trans hci⟩, hW⟩
        have HQ0 : Hid (FrM w wr.drew rb (MBox 0 0 none 0 0)) := HFO.out.drew
        clear hlt hbl hcl hc0 hci e1 e2 e3
        by_cases hmc : mi = c
        · have hb : ((mi : Int) != (c : Int)) = false := by simp; omega
          have HS2 := hid (HSJ.out hmc)
          have HMC := hid hmc
          -- the number of columns
          have HF2 : Hid (FrM w (wr.drew.setCell ⟨mb, 1, none⟩ (.int .i64 c)) rb (MBox 0 0 none 0 0)) := ⟨HQ0.out.1.setCell (p := ⟨mb, 1, none⟩) HMW.out _, (set_keepM (Ne.symm HNE.out) _).trans HQ0.out.2⟩
          have HM2 : Hid (FrM w (wr.drew.setCell ⟨mb, 1, none⟩ (.int .i64 c)) mb (MBox n c ta k cap)) := ⟨HF2.out.1, mset1c HFM.out.2⟩
          have HO2 : Hid ((wr.drew.setCell ⟨mb, 1, none⟩ (.int .i64 c)).ownsRow w.heap.size 57 1 (.slice ta k cap) k ((ofL X i).map (.float .f64))) := own_set (World.ownsRow.drew' HOW.out) HFM.out.2
          obtain ⟨q0, q1, q2⟩ := mcells_of (w := wr.drew) HFM.out.2
          have fq := frzM (A := wr.drew) HFM.out.2
          obtain ⟨U2, hU2⟩ : ∃ V, Hid (wr.drew.setCell ⟨mb, 1, none⟩ (.int .i64 c) = V) := ⟨_, rfl⟩
          rw [hU2.out] at HF2 HM2 HO2
          have hU2' := hU2.out
          have HLC : Hid (U2.cell? ⟨lb, lo, none⟩ = some (.slice s0 c k0)) := (HKS.out _ HF2).1.1
          have hlc : wr.drew.cell? ⟨lb, lo, none⟩ = some (.slice s0 c k0) := (HKS.out _ HQ0).1.1
          -- the numbers
          obtain ⟨ta2, cap2, w5, hrun, hown5, hgr⟩ := app_fl 27 (World.ownsRow.drew' HO2.out) ((HFX.out.below HF2.out.1.drew) : FlM U2.drew si mi ki (X i)) (by have e1 := hk.out; have e2 := HC12.out; have e3 := HMC.out; have e4 : i * c ≤ 12 * 12 := Nat.mul_le_mul (by omega) e2; omega) HF2.out.1.size
          have HM5 : Hid (w5.heap[mb]? = some (MBox n c ta k cap)) := own_keep (World.ownsRow.drew' HO2.out) HM2.out.2 hgr
          have HF5 : Hid (FrM w w5 rb (MBox 0 0 none 0 0)) := ⟨HF2.out.1.drew.grown hgr HF2.out.1.size (fun x hx => ((World.ownsRow.drew' HO2.out).lt x hx).1), own_keep (World.ownsRow.drew' HO2.out) HF2.out.2 hgr⟩
          have HF6 : Hid (FrM w (w5.setCell ⟨mb, 2, none⟩ (.slice ta2 (k + mi) cap2)) rb (MBox 0 0 none 0 0)) := ⟨HF5.out.1.setCell (p := ⟨mb, 2, none⟩) HMW.out _, (set_keepM (Ne.symm HNE.out) _).trans HF5.out.2⟩
          have HST6 : Hid (OfSt w (w5.setCell ⟨mb, 2, none⟩ (.slice ta2 (k + mi) cap2)) mb rb n c X (i + 1)) := by
            have e1 : (i + 1) * c = k + mi := by rw [Nat.add_mul, Nat.one_mul, hk.out, HMC.out]
            refine ⟨HF6.out, ta2, cap2, ?_, ?_⟩
            · rw [if_neg (by omega), e1]
              exact ⟨HF6.out.1, mset2c HM5.out⟩
            · rw [e1]
              have := own_set2 (o := 2) hown5 HM5.out (.slice ta2 (k + mi) cap2)
              rw [← List.map_append] at this
              exact this
          have HQ2 : Hid (FrM w U2.drew rb (MBox 0 0 none 0 0)) := HF2.out.drew
          have HCM : Hid (U2.drew.cell? ⟨mb, 2, none⟩ = some (.slice ta k cap)) := (mcells_of HM2.out.2).2.2
          have HCN : Hid (w5.cell? ⟨mb, 2, none⟩ = some (.slice ta k cap)) := (mcells_of HM5.out).2.2
          have HCF : Hid (w5.frozen? ⟨mb, 2, none⟩ = false) := frzM HM5.out 2
          clear hmc hown5 hgr HSI HSJ
          go_wp2_with fail
          refine wp_region_held_drew (S := fun W => (W.cell? ⟨lb, lo, none⟩ = some (.slice s0 c k0) ∧ W.cell? ⟨lb, lo + i, none⟩ = some (.slice si mi ki)) ∧ Hid (FrM w W rb (MBox 0 0 none 0 0))) (by kernel_rfl) (HKS.out _ HQ0) (fun hHeld => ?_)
          refine take_at 0 31 (.slice (some ⟨lb, lo, none⟩) n lc) rfl rfl (by kernel_rfl) (by kernel_rfl) (by kernel_rfl) (fun _ _ _ h => h) (Or.inl ⟨by rfl, fun w hSw => by (try dsimp only at hSw); go_simp⟩) (by assumption) ?_
          simp only [Act.put, List.setIfInBounds_toArray, List.set_cons_zero, List.set_cons_succ]
          refine take_at 1 32 (.int .i64 i) rfl rfl (by kernel_rfl) (by kernel_rfl) (by kernel_rfl) (fun _ _ _ h => h) (Or.inl ⟨by rfl, fun w hSw => by (try dsimp only at hSw); go_simp⟩) (by assumption) ?_
          simp only [Act.put, List.setIfInBounds_toArray, List.set_cons_zero, List.set_cons_succ]
          refine take_at 2 33 (.pointer (some ⟨lb, lo + i, none⟩)) rfl rfl (by kernel_rfl) (by kernel_rfl) (by kernel_rfl) (fun _ _ _ h => h) (Or.inl ⟨by rfl, fun w hSw => by (try dsimp only at hSw); go_simp⟩) (by assumption) ?_
          simp only [Act.put, List.setIfInBounds_toArray, List.set_cons_zero, List.set_cons_succ]
          refine take_at 3 34 (.slice si mi ki) rfl rfl (by kernel_rfl) (by kernel_rfl) (by kernel_rfl) (fun _ _ _ h => h) (Or.inl ⟨by rfl, fun w hSw => by (try dsimp only at hSw); go_simp⟩) (by assumption) ?_
          simp only [Act.put, List.setIfInBounds_toArray, List.set_cons_zero, List.set_cons_succ]
          refine take_at 4 35 (.int .i64 mi) rfl rfl (by kernel_rfl) (by kernel_rfl) (by kernel_rfl) (fun _ _ _ h => h) (Or.inl ⟨by rfl, fun w hSw => by (try dsimp only at hSw); go_simp⟩) (by assumption) ?_
          simp only [Act.put, List.setIfInBounds_toArray, List.set_cons_zero, List.set_cons_succ]
          refine take_at 5 36 (.slice (some ⟨lb, lo, none⟩) n lc) rfl rfl (by kernel_rfl) (by kernel_rfl) (by kernel_rfl) (fun _ _ _ h => h) (Or.inl ⟨by rfl, fun w hSw => by (try dsimp only at hSw); go_simp⟩) (by assumption) ?_
          simp only [Act.put, List.setIfInBounds_toArray, List.set_cons_zero, List.set_cons_succ]
          refine take_at 6 37 (.pointer (some ⟨lb, lo, none⟩)) rfl rfl (by kernel_rfl) (by kernel_rfl) (by kernel_rfl) (fun _ _ _ h => h) (Or.inl ⟨by rfl, fun w hSw => by (try dsimp only at hSw); go_simp⟩) (by assumption) ?_
          simp only [Act.put, List.setIfInBounds_toArray, List.set_cons_zero, List.set_cons_succ]
          refine take_at 7 38 (.slice s0 c k0) rfl rfl (by kernel_rfl) (by kernel_rfl) (by kernel_rfl) (fun _ _ _ h => h) (Or.inl ⟨by rfl, fun w hSw => by (try dsimp only at hSw); go_simp⟩) (by assumption) ?_
          simp only [Act.put, List.setIfInBounds_toArray, List.set_cons_zero, List.set_cons_succ]
          refine take_at 8 39 (.int .i64 c) rfl rfl (by kernel_rfl) (by kernel_rfl) (by kernel_rfl) (fun _ _ _ h => h) (Or.inl ⟨by rfl, fun w hSw => by (try dsimp only at hSw); go_simp⟩) (by assumption) ?_
          simp only [Act.put, List.setIfInBounds_toArray, List.set_cons_zero, List.set_cons_succ]
          refine take_at 9 40 (.bool false) rfl rfl (by kernel_rfl) (by kernel_rfl) (by kernel_rfl) (fun _ _ _ h => h) (Or.inl ⟨by rfl, fun w hSw => by (try dsimp only at hSw); go_simp⟩) (by assumption) ?_
          simp only [Act.put, List.setIfInBounds_toArray, List.set_cons_zero, List.set_cons_succ]
          refine wpAnyH_done (by kernel_rfl) ?_ _
          go_wp2_with fail
          refine wp_region_held_drew (S := fun W => (W.cell? ⟨lb, lo, none⟩ = some (.slice s0 c k0) ∧ W.cell? ⟨lb, lo + i, none⟩ = some (.slice si mi ki)) ∧ Hid (FrM w W rb (MBox 0 0 none 0 0))) (by kernel_rfl) (HKS.out _ HQ2) (fun hHeld => ?_)
          refine take_at 0 47 (.pointer (some ⟨mb, 2, none⟩)) rfl rfl (by kernel_rfl) (by kernel_rfl) (by kernel_rfl) (fun _ _ _ h => h) (Or.inl ⟨by rfl, fun w hSw => by (try dsimp only at hSw); go_simp⟩) (by assumption) ?_
          simp only [Act.put, List.setIfInBounds_toArray, List.set_cons_zero, List.set_cons_succ]
          refine take_at 2 49 (.slice (some ⟨lb, lo, none⟩) n lc) rfl rfl (by kernel_rfl) (by kernel_rfl) (by kernel_rfl) (fun _ _ _ h => h) (Or.inl ⟨by rfl, fun w hSw => by (try dsimp only at hSw); go_simp⟩) (by assumption) ?_
          simp only [Act.put, List.setIfInBounds_toArray, List.set_cons_zero, List.set_cons_succ]
          refine take_at 3 50 (.int .i64 i) rfl rfl (by kernel_rfl) (by kernel_rfl) (by kernel_rfl) (fun _ _ _ h => h) (Or.inl ⟨by rfl, fun w hSw => by (try dsimp only at hSw); go_simp⟩) (by assumption) ?_
          simp only [Act.put, List.setIfInBounds_toArray, List.set_cons_zero, List.set_cons_succ]
          refine take_at 4 51 (.pointer (some ⟨lb, lo + i, none⟩)) rfl rfl (by kernel_rfl) (by kernel_rfl) (by kernel_rfl) (fun _ _ _ h => h) (Or.inl ⟨by rfl, fun w hSw => by (try dsimp only at hSw); go_simp⟩) (by assumption) ?_
          simp only [Act.put, List.setIfInBounds_toArray, List.set_cons_zero, List.set_cons_succ]
          refine take_at 5 52 (.slice si mi ki) rfl rfl (by kernel_rfl) (by kernel_rfl) (by kernel_rfl) (fun _ _ _ h => h) (Or.inl ⟨by rfl, fun w hSw => by (try dsimp only at hSw); go_simp⟩) (by assumption) ?_
          simp only [Act.put, List.setIfInBounds_toArray, List.set_cons_zero, List.set_cons_succ]
          refine wpAnyH_ready (rs := [1]) (by kernel_rfl) (by simp) ?_
          refine AllReadyH.cons (o := _) rfl (fun K hK => ?_) AllReadyH.nil
          have hcm := HCM.out
          go_simp
          go_wp2_with fail
          refine hK.out _ _ (HKS.out _ HQ2) (fun hHeld1 => ?_)
          clear hK K hcm
          try simp only [Act.put, List.setIfInBounds_toArray, List.set_cons_zero, List.set_cons_succ]
          refine wpAnyH_ready (rs := [6]) (by kernel_rfl) (by simp) ?_
          refine AllReadyH.cons (o := _) rfl (fun K hK => ?_) AllReadyH.nil
          refine step_apf 27 rfl _ _ rfl (.slice ta k cap) (.slice si mi ki) (by first | rfl | (simp [Act.eval]; done) | (simp [Act.eval, Act.put]; done)) (by first | rfl | (simp [Act.eval]; done) | (simp [Act.eval, Act.put]; done)) hrun ?_
          refine hK.out _ _ (HKS.out _ HF5) (fun hHeld2 => ?_)
          clear hK K hrun
          simp only [Act.put, List.setIfInBounds_toArray]
          refine take_at 7 54 (.pointer (some ⟨mb, 2, none⟩)) rfl rfl (by kernel_rfl) (by kernel_rfl) (by kernel_rfl) (fun _ _ _ h => h) (Or.inl ⟨by rfl, fun w hSw => by (try dsimp only at hSw); go_simp⟩) (by assumption) ?_
          simp only [Act.put]
          refine wpAnyH_ready (rs := [8]) (by kernel_rfl) (by simp) ?_
          refine AllReadyH.cons (o := _) rfl (fun K hK => ?_) AllReadyH.nil
          have hcn := HCN.out
          have hcf := HCF.out
          go_simp
          go_wp2_with fail
          refine hK.out _ _ (HKS.out _ HF6) (fun hHeld3 => ?_)
          clear hK K hcn hcf
          try simp only [Act.put, List.setIfInBounds_toArray, List.set_cons_zero, List.set_cons_succ]
          refine wpAnyH_done (by kernel_rfl) ?_ _
          go_wp2_with fail
          have hi1 := HI.out
          refine ⟨⟨i + 1, by omega, by go_num, HS2, HST6⟩, ?_⟩
          simp [intOf]; omega
        · have hb : ((mi : Int) != (c : Int)) = true := by simp; omega
          have HNS := hid (HSI.out hmc)
          clear hmc HSI HSJ
          go_wp2_with fail
          refine wp_region_held_drew (S := fun W => (W.cell? ⟨lb, lo, none⟩ = some (.slice s0 c k0) ∧ W.cell? ⟨lb, lo + i, none⟩ = some (.slice si mi ki)) ∧ Hid (FrM w W rb (MBox 0 0 none 0 0))) (by kernel_rfl) (HKS.out _ HQ0) (fun hHeld => ?_)
          refine take_at 0 31 (.slice (some ⟨lb, lo, none⟩) n lc) rfl rfl (by kernel_rfl) (by kernel_rfl) (by kernel_rfl) (fun _ _ _ h => h) (Or.inl ⟨by rfl, fun w hSw => by (try dsimp only at hSw); go_simp⟩) (by assumption) ?_
          simp only [Act.put, List.setIfInBounds_toArray, List.set_cons_zero, List.set_cons_succ]
          refine take_at 1 32 (.int .i64 i) rfl rfl (by kernel_rfl) (by kernel_rfl) (by kernel_rfl) (fun _ _ _ h => h) (Or.inl ⟨by rfl, fun w hSw => by (try dsimp only at hSw); go_simp⟩) (by assumption) ?_
          simp only [Act.put, List.setIfInBounds_toArray, List.set_cons_zero, List.set_cons_succ]
          refine take_at 2 33 (.pointer (some ⟨lb, lo + i, none⟩)) rfl rfl (by kernel_rfl) (by kernel_rfl) (by kernel_rfl) (fun _ _ _ h => h) (Or.inl ⟨by rfl, fun w hSw => by (try dsimp only at hSw); go_simp⟩) (by assumption) ?_
          simp only [Act.put, List.setIfInBounds_toArray, List.set_cons_zero, List.set_cons_succ]
          refine take_at 3 34 (.slice si mi ki) rfl rfl (by kernel_rfl) (by kernel_rfl) (by kernel_rfl) (fun _ _ _ h => h) (Or.inl ⟨by rfl, fun w hSw => by (try dsimp only at hSw); go_simp⟩) (by assumption) ?_
          simp only [Act.put, List.setIfInBounds_toArray, List.set_cons_zero, List.set_cons_succ]
          refine take_at 4 35 (.int .i64 mi) rfl rfl (by kernel_rfl) (by kernel_rfl) (by kernel_rfl) (fun _ _ _ h => h) (Or.inl ⟨by rfl, fun w hSw => by (try dsimp only at hSw); go_simp⟩) (by assumption) ?_
          simp only [Act.put, List.setIfInBounds_toArray, List.set_cons_zero, List.set_cons_succ]
          refine take_at 5 36 (.slice (some ⟨lb, lo, none⟩) n lc) rfl rfl (by kernel_rfl) (by kernel_rfl) (by kernel_rfl) (fun _ _ _ h => h) (Or.inl ⟨by rfl, fun w hSw => by (try dsimp only at hSw); go_simp⟩) (by assumption) ?_
          simp only [Act.put, List.setIfInBounds_toArray, List.set_cons_zero, List.set_cons_succ]
          refine take_at 6 37 (.pointer (some ⟨lb, lo, none⟩)) rfl rfl (by kernel_rfl) (by kernel_rfl) (by kernel_rfl) (fun _ _ _ h => h) (Or.inl ⟨by rfl, fun w hSw => by (try dsimp only at hSw); go_simp⟩) (by assumption) ?_
          simp only [Act.put, List.setIfInBounds_toArray, List.set_cons_zero, List.set_cons_succ]
          refine take_at 7 38 (.slice s0 c k0) rfl rfl (by kernel_rfl) (by kernel_rfl) (by kernel_rfl) (fun _ _ _ h => h) (Or.inl ⟨by rfl, fun w hSw => by (try dsimp only at hSw); go_simp⟩) (by assumption) ?_
          simp only [Act.put, List.setIfInBounds_toArray, List.set_cons_zero, List.set_cons_succ]
          refine take_at 8 39 (.int .i64 c) rfl rfl (by kernel_rfl) (by kernel_rfl) (by kernel_rfl) (fun _ _ _ h => h) (Or.inl ⟨by rfl, fun w hSw => by (try dsimp only at hSw); go_simp⟩) (by assumption) ?_
          simp only [Act.put, List.setIfInBounds_toArray, List.set_cons_zero, List.set_cons_succ]
          refine take_at 9 40 (.bool true) rfl rfl (by kernel_rfl) (by kernel_rfl) (by kernel_rfl) (fun _ _ _ h => h) (Or.inl ⟨by rfl, fun w hSw => by (try dsimp only at hSw); go_simp⟩) (by assumption) ?_
          simp only [Act.put, List.setIfInBounds_toArray, List.set_cons_zero, List.set_cons_succ]
          refine wpAnyH_done (by kernel_rfl) ?_ _
          go_wp2_with fail
          exact bodyPost_ret (v := .tuple #[MV 0 0 none 0 0, .int .i64 3]) (by simp [results, Try.results18, go_sem, y0, y1, y2, MV]) rfl ⟨Or.inl ⟨HNS.out, rfl⟩, by first | exact (below_p (StoM.below (b := rb) (r := 0) (c := 0) (sa := none) (n := 0) (cap := 0) HQ0.out.1 (by rw [hrb.out]; exact Nat.le_refl _)) hrb.out).1 | exact (below_p (StoM.below (b := rb) (r := 0) (c := 0) (sa := none) (n := 0) (cap := 0) HQ0.out.1 (by rw [hrb.out]; exact Nat.le_refl _)) hrb.out).2⟩
      · obtain rfl : n = i := by omega
        have HFL : Hid (FlM wr.drew ta k cap (ofL X n)) := own_fl (HOW.out) (ofL_lt (fun j hj => (HLS.out.1 j hj).2.1))
        have HNC : Hid (k ≤ 144) := by have e1 := hk.out; have e2 := HC12.out; have e4 : n * c ≤ 12 * 12 := Nat.mul_le_mul HN12.out e2; show k ≤ 144; omega
        have HON := hid (fun W (hW : Below wr.drew.heap.size wr.drew W) => rOnly_any n C ta k cap (ofL X n) W (HFL.out.below hW) (by have := HNC.out; omega))
        rw [ofL_fin X n] at HON
        have HCE : Hid (C = c) := by
          show C = c
          rw [← hC.out]
          by_cases h0 : n = 0
          · rw [if_pos h0]; exact (HZC.out h0).symm
          · rw [if_neg h0]
        obtain ⟨E, hE⟩ : ∃ E, Hid ((if allF X n = true then 0 else 4 : Int) = E) := ⟨_, rfl⟩
        rw [hE.out] at HON
        have HKM : Hid (∀ W, Hid (FrM w W mb (MBox n C ta k cap)) → (W.cell? ⟨mb, 0, none⟩ = some (.int .i64 n) ∧ W.cell? ⟨mb, 1, none⟩ = some (.int .i64 C) ∧ W.cell? ⟨mb, 2, none⟩ = some (.slice ta k cap)) ∧ Hid (FrM w W mb (MBox n C ta k cap))) := fun W hW => by
          obtain ⟨a0, a1, a2⟩ := mcells_of hW.out.2
          exact ⟨⟨a0, a1, a2⟩, hW⟩
        have HQ0 : Hid (FrM w wr.drew rb (MBox 0 0 none 0 0)) := HFO.out.drew
        have HQB : Hid (FrM w wr.drew mb (MBox n C ta k cap)) := HFM.out.drew
        go_wp2_with fail
        refine wp_region_held_drew (S := fun W => (W.cell? ⟨mb, 0, none⟩ = some (.int .i64 n) ∧ W.cell? ⟨mb, 1, none⟩ = some (.int .i64 C) ∧ W.cell? ⟨mb, 2, none⟩ = some (.slice ta k cap)) ∧ Hid (FrM w W mb (MBox n C ta k cap))) (by kernel_rfl) (HKM.out _ HQB) (fun hHeld => ?_)
        refine take_at 0 55 (.agg #[.int .i64 n, .int .i64 C, .slice ta k cap]) rfl rfl (by kernel_rfl) (by kernel_rfl) (by kernel_rfl) (fun _ _ _ h => h) (Or.inl ⟨by rfl, fun w hSw => by (try dsimp only at hSw); go_simp⟩) (by assumption) ?_
        simp only [Act.put, List.setIfInBounds_toArray, List.set_cons_zero, List.set_cons_succ]
        refine take_at 1 56 (.agg #[.int .i64 n, .int .i64 C, .slice ta k cap]) rfl rfl (by kernel_rfl) (by kernel_rfl) (by kernel_rfl) (fun _ _ _ h => h) (Or.inl ⟨by rfl, fun w hSw => by (try dsimp only at hSw); go_simp⟩) (by assumption) ?_
        simp only [Act.put, List.setIfInBounds_toArray, List.set_cons_zero, List.set_cons_succ]
        refine wpAnyH_ready (rs := [2]) (by kernel_rfl) (by simp) ?_
        refine AllReadyH.cons (o := _) rfl (fun K hK => ?_) AllReadyH.nil
        go_simp
        refine (HON.out _ (Below.refl _ _)).mono ?_
        rintro e u1 ⟨rfl, hu⟩
        have HQ1 := hid (HQ0.out.call hu)
        have HQM : Hid (FrM w u1 mb (MBox n C ta k cap)) := HQB.out.call hu
        have HF1 := hid (HFL.out.below hu)
        clear hu
        go_wp2_with fail
        refine hK.out _ _ (HKM.out _ HQM) (fun hHeld1 => ?_)
        clear hK K
        try simp only [Act.put, List.setIfInBounds_toArray, List.set_cons_zero, List.set_cons_succ]
        refine wpAnyH_ready (rs := [3]) (by kernel_rfl) (by simp) ?_
        refine AllReadyH.cons (o := _) rfl (fun K hK => ?_) AllReadyH.nil
        obtain ⟨z0, z1, z2⟩ := mcells_of HQ1.out.2
        have fzz := frzM HQ1.out.2
        have HQN : Hid (FrM w (StoM u1 rb n C ta k cap) mb (MBox n C ta k cap)) := ⟨StoM.below HQM.out.1 (by rw [hrb.out]; exact Nat.le_refl _), (StoM.keep HNE.out).trans HQM.out.2⟩
        have HQR : Hid ((StoM u1 rb n C ta k cap).heap[rb]? = some (MBox n C ta k cap)) := mset HQ1.out.2
        have HFQ : Hid (FlM (StoM u1 rb n C ta k cap) ta k cap (ofL X n)) := sto_fl HF1.out HQ1.out.2
        obtain ⟨U2, hU2⟩ : ∃ V, Hid (StoM u1 rb n C ta k cap = V) := ⟨_, rfl⟩
        rw [hU2.out] at HQN HQR HFQ
        have hU2' := hU2.out
        unfold StoM at hU2'
        go_simp
        go_wp2_with fail
        refine hK.out _ _ (HKM.out _ HQN) (fun hHeld2 => ?_)
        clear hK K
        try simp only [Act.put, List.setIfInBounds_toArray, List.set_cons_zero, List.set_cons_succ]
        refine take_at 4 3 (.int .i64 E) rfl rfl (by kernel_rfl) (by kernel_rfl) (by kernel_rfl) (fun _ _ _ h => h) (Or.inl ⟨by rfl, fun w hSw => by (try dsimp only at hSw); go_simp⟩) (by assumption) ?_
        simp only [Act.put, List.setIfInBounds_toArray, List.set_cons_zero, List.set_cons_succ]
        refine wpAnyH_done (by kernel_rfl) ?_ _
        go_wp2_with fail
        have hne := HNE.out
        obtain ⟨b0, b1, b2⟩ := mcells_of HQR.out
        exact bodyPost_ret (v := .tuple #[.agg #[.int .i64 n, .int .i64 C, .slice ta k cap], .int .i64 E]) (by simp [results, Try.results18, go_sem, b0, b1, b2]) rfl ⟨Or.inr ⟨HS.out, ta, cap, by rw [hE.out, ← HCE.out, show n * C = k by rw [HCE.out]; exact hk.out], by rw [← HCE.out, show n * C = k by rw [HCE.out]; exact hk.out]; exact HFQ.out⟩, by first | exact HQN.out.1 | exact (below_p HQN.out.1 hrb.out).2⟩
end Go.Proofs.Ytokeialkeadanaa
