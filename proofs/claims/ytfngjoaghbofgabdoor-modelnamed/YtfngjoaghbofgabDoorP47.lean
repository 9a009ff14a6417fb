
/- Sees: model's, and the document's. The law ModelSees. -/
import Derived.Test.YtfngjoaghbofgabDoorP46
import Derived.Test.YtfngjoaghbofgabDoorP40
namespace Go.Proofs.YtfngjoaghbofgabDoor
open Go.RowKit Go.IntWalk

/-- What Sees tells. -/
def seT (id r c : Int) (n : Nat) (xs : List Nat) (m : Nat) (ys : List Nat) (g : Nat) (q : Nat) (us : List Nat) : Int := if snE id r c n xs m ys g (q : Int) ≠ 0 then snE id r c n xs m ys g (q : Int) else vecT r c n xs q us
theorem se_facts {id r c : Int} {n : Nat} {xs : List Nat} {m : Nat} {ys : List Nat} {g q : Nat} (us : List Nat) (h : snE id r c n xs m ys g (q : Int) = 0) : vecE r c n xs q us = (if finM us = false then 4 else 0) ∧ seT id r c n xs m ys g q us = vecT r c n xs q us := by
  refine ⟨?_, by unfold seT; rw [if_neg (fun k => k h)]⟩
  unfold snE at h
  by_cases h1 : id < 0 ∨ 64 ≤ id
  · rw [if_pos h1] at h; cases h
  rw [if_neg h1] at h
  by_cases h2 : chkM r c n xs = 0
  · rw [if_neg (fun k => k h2)] at h
    by_cases h3 : r < 1 ∨ 6 < r
    · rw [if_pos h3] at h; cases h
    rw [if_neg h3] at h
    by_cases h4 : c ≠ (q : Int) ∨ (m : Int) ≠ r
    · rw [if_pos h4] at h; cases h
    have hc : c = (q : Int) := by omega
    obtain ⟨R, C, e1, e2, l1, l2, _, _⟩ := chk_some h2
    have hq : ¬ 12 < q := by omega
    unfold vecE
    rw [h2]
    have e3 : shpE c q = 0 := by unfold shpE; rw [if_pos hc]
    rw [e3]
    unfold lstE
    rw [if_neg hq]
    unfold first2
    by_cases hf : finM us = false
    · rw [if_pos hf]; decide
    · rw [if_neg hf]; decide
  · rw [if_pos h2] at h; exact absurd h h2
theorem vt_four {r c : Int} {n : Nat} {xs : List Nat} {q : Nat} {us : List Nat} (h : vecE r c n xs q us = 4) : vecT r c n xs q us = 4 := by
  unfold vecT
  rw [h, if_neg (by decide)]
theorem vt_fin {r c : Int} {n : Nat} {xs : List Nat} {q : Nat} {us : List Nat} (h : vecE r c n xs q us = 0) : vecT r c n xs q us = if finF r.toNat (vecV xs us c.toNat) = true then 0 else 5 := by
  unfold vecT
  rw [if_pos h]
theorem fn_flR {W : World} {sa : Option Addr} {n cap : Nat} {f : Nat → Nat} (h : FnM W sa n cap f) : FlM W sa n cap ((List.range n).map f) := h.fl
set_option maxRecDepth 4000 in
set_option maxHeartbeats 4000000 in
theorem Sees_any (id r c : Int) (sa : Option Addr) (n ka : Nat) (sr : Option Addr) (m kr g : Nat) (xs ys : List Nat) (su : Option Addr) (q ku : Nat) (us : List Nat) (w : World) (hx : FlM w sa n ka xs) (hy : FlM w sr m kr ys) (hz : FlM w su q ku us) (hn : n ≤ 17592186043904) (hm : m ≤ 17592186043904) (hq : q ≤ 17592186043904) (hg : g < 18446744073709551616) : Calls Tryd.prog 17 #[SnV id r c sa n ka sr m kr g, .slice su q ku] w fun e w' => (∃ s k l, e = .returned (.tuple #[.slice s k l, .int .i64 (seT id r c n xs m ys g q us)]) ∧ LsC (seT id r c n xs m ys g q us) r.toNat (vecV xs us c.toNat) w' s k l) ∧ Below w.heap.size w w' := by
  have HB0 : Hid (Below w.heap.size w (w.alloc (SnBox id r c sa n ka sr m kr g)) ∧ (w.alloc (SnBox id r c sa n ka sr m kr g)).heap[w.heap.size]? = some (SnBox id r c sa n ka sr m kr g)) := ⟨(Below.refl _ _).alloc (Nat.le_refl _) _, nblkM _ _⟩
  have HCK := hid (fun W (hW : Below w.heap.size w W) => CheckSn_any id r c sa n ka sr m kr g xs ys (q : Int) W (hx.below hW) (hy.below hW) hn hm hg)
  have HMV := hid (fun W (hW : Below w.heap.size w W) => MulVec_tot r c sa n ka xs su q ku us W (hx.below hW) (hz.below hW) hn hq)
  have HSE := hid (@se_facts id r c n xs m ys g q us)
  have HS0 : Hid (snE id r c n xs m ys g (q : Int) ≠ 0 → seT id r c n xs m ys g q us = snE id r c n xs m ys g (q : Int)) := fun h => by unfold seT; rw [if_pos h]
  obtain ⟨E, hE⟩ : ∃ t, snE id r c n xs m ys g (q : Int) = t := ⟨_, rfl⟩
  rw [hE] at HCK HSE HS0
  obtain ⟨V, hV⟩ : ∃ V, Hid (w.alloc (SnBox id r c sa n ka sr m kr g) = V) := ⟨_, rfl⟩
  rw [hV.out] at HB0
  have hV' := hV.out
  unfold SnBox at hV'
  have sn := sncells_of HB0.out.2
  unfold SnC at sn
  obtain ⟨s0, s1, s2, s3, s4, s5, s6, s7, s8⟩ := sn
  have HCK2 := hid (HCK.out _ HB0.out.1)
  unfold SnV at HCK2 ⊢
  clear hE
  clear hx hy hz hn hm hq hg
  by_cases hE0 : E = 0
  · subst hE0
    obtain ⟨_, e2⟩ := HSE.out rfl
    rw [e2]
    obtain ⟨Tt, hT⟩ : ∃ t, vecT r c n xs q us = t := ⟨_, rfl⟩
    rw [hT] at HMV ⊢
    clear e2 hT
    go_enter Tryd.func17, Tryd.ntmps17
    go_wp2_with fail
    refine HCK2.out.mono ?_
    rintro e w1 ⟨rfl, hb⟩
    have HB1 : Hid (Below w.heap.size w w1 ∧ w1.heap[w.heap.size]? = some (SnBox id r c sa n ka sr m kr g)) := ⟨HB0.out.1.trans (hb.mono HB0.out.1.size), blkM HB0.out.2 hb⟩
    have sn := sncells_of HB1.out.2
    unfold SnC at sn
    obtain ⟨s0, s1, s2, s3, s4, s5, s6, s7, s8⟩ := sn
    clear hb
    go_wp2_with fail
    refine (HMV.out _ HB1.out.1).mono ?_
    rintro e w2 ⟨⟨s, k, l, rfl, hl⟩, hb⟩
    have HB2 := hid (HB1.out.1.trans (hb.mono HB1.out.1.size))
    have HL := hid hl
    clear hl hb
    go_wp2_with fail
    exact bodyPost_ret (v := .tuple #[.slice s k l, .int .i64 Tt]) (by simp [results, Tryd.results17, go_sem]) rfl ⟨⟨s, k, l, rfl, HL.out⟩, HB2.out⟩
  · rw [HS0.out hE0]
    have hne : (E != 0) = true := by simpa using hE0
    have HE0 := hid hE0
    clear hE0
    go_enter Tryd.func17, Tryd.ntmps17
    go_wp2_with fail
    refine HCK2.out.mono ?_
    rintro e w1 ⟨rfl, hb⟩
    have HB1 : Hid (Below w.heap.size w w1 ∧ w1.heap[w.heap.size]? = some (SnBox id r c sa n ka sr m kr g)) := ⟨HB0.out.1.trans (hb.mono HB0.out.1.size), blkM HB0.out.2 hb⟩
    have sn := sncells_of HB1.out.2
    unfold SnC at sn
    obtain ⟨s0, s1, s2, s3, s4, s5, s6, s7, s8⟩ := sn
    clear hb
    go_wp2_with fail
    exact bodyPost_ret (v := .tuple #[.slice none 0 0, .int .i64 E]) (by simp [results, Tryd.results17, go_sem]) rfl ⟨⟨none, 0, 0, rfl, Or.inr ⟨HE0.out, rfl, rfl, rfl⟩⟩, HB1.out.1⟩
theorem same_res (E : Int) (r : Nat) (v : Nat → Nat) (s s2 : Option Addr) (k l k2 l2 : Nat) (w : World) (h : LsC E r v w s k l) (h2 : LsC E r v w s2 k2 l2) : Calls Tryd.prog 10 #[.slice s k l, .slice s2 k2 l2] w fun e w' => e = .returned (.bool true) ∧ Below w.heap.size w w' := by
  rcases h with ⟨h0, rfl, o, hf, hv⟩ | ⟨h0, rfl, rfl, rfl⟩
  · rcases h2 with ⟨_, rfl, o', hf', hv'⟩ | ⟨h1, _⟩
    · exact SameL_yes s s2 k2 l l2 o o' w hf hf' (fun k hk => by rw [hv k hk, hv' k hk])
    · exact absurd h0 h1
  · rcases h2 with ⟨h1, _⟩ | ⟨_, rfl, rfl, rfl⟩
    · exact absurd h1 h0
    · exact SameL_yes none none 0 0 0 (fun _ => 0) (fun _ => 0) w (Or.inl ⟨rfl, rfl, rfl⟩) (Or.inl ⟨rfl, rfl, rfl⟩) (fun k hk => absurd hk (Nat.not_lt_zero _))
end Go.Proofs.YtfngjoaghbofgabDoor

namespace Go.Proofs.YtfngjoaghbofgabDoor
open Go.RowKit Go.IntWalk

def onesL (m : Nat) : List Nat := List.replicate m 4607182418800017408
theorem ones_var (m : Nat) : varsB (onesL m) = false := by
  unfold varsB onesL
  rw [List.any_eq_false]
  intro x hx
  rw [List.eq_of_mem_replicate hx]
  decide +kernel
theorem ones_fin (m : Nat) : finM (onesL m) = true := by
  unfold finM onesL
  rw [List.all_eq_true]
  intro x hx
  rw [List.eq_of_mem_replicate hx]
  decide +kernel
theorem pk_all {D : Int} {xs : List Int} {m : Nat} (h : pkB D xs m = true) (i : Nat) (hi : i < m) : 0 ≤ xs.getD i 0 ∧ xs.getD i 0 < D := Classical.byContradiction fun hc => by
  rw [pk_stop hi hc] at h
  cases h
theorem pkE_facts {D : Int} {m : Nat} {xs : List Int} (h : pkE 0 D m xs = 0) : 1 ≤ m ∧ m ≤ 6 ∧ pkB D xs m = true := by
  by_cases h1 : m = 0 ∨ 6 < m
  · rw [pkE_len h1] at h; omega
  · cases hb : pkB D xs m with
    | false => rw [pkE_bad h1 hb] at h; omega
    | true => exact ⟨by omega, by omega, rfl⟩
theorem fin_list {us : List Nat} (hu : finM us = true) (k : Nat) (hk : k < us.length) : (expOf (us.getD k 0) == 2047) = false := by
  unfold finM at hu
  rw [List.all_eq_true] at hu
  have := hu (us.getD k 0) (mem_getM us k hk)
  simpa using this
theorem exp_finq {x : Nat} (fx : x % 9223372036854775808 < 9218868437227405312) : (expOf x == 2047) = false := by
  unfold expOf
  rw [canq_fin fx, beq_eq_false_iff_ne]
  omega
theorem pk_vec {m D : Nat} {xs : List Int} {o : Nat → Nat} {us : List Nat} (hb : pkB D xs m = true) (ho : ∀ i j, i < m → j < D → canonOf (o (i * D + j)) = pkV xs i j) (hq : us.length = D) (hus : ∀ x ∈ us, x < 18446744073709551616) (hu : finM us = true) (i : Nat) (hi : i < m) : ∃ p : Nat, xs.getD i 0 = (p : Int) ∧ p < D ∧ vecV ((List.range (m * D)).map o) us D i = plusQ (us.getD p 0) ∧ us.getD p 0 < 18446744073709551616 ∧ us.getD p 0 % 9223372036854775808 < 9218868437227405312 := by
  obtain ⟨h1, h2⟩ := pk_all hb i hi
  obtain ⟨p, hp⟩ := Int.eq_ofNat_of_zero_le h1
  have hpD : p < D := by omega
  have hg : ∀ k, k < D → us.getD k 0 < 18446744073709551616 ∧ us.getD k 0 % 9223372036854775808 < 9218868437227405312 := fun k hk => by
    have a := hus _ (mem_getM us k (by omega))
    exact ⟨a, fin_exp a (fin_list hu k (by omega))⟩
  refine ⟨p, hp, hpD, ?_, hg p hpD⟩
  unfold vecV
  refine dot_unit _ _ D p hpD (fun k hk => ?_) hg
  have hlt : i * D + k < m * D := by
    have : (i + 1) * D ≤ m * D := Nat.mul_le_mul_right _ hi
    rw [Nat.succ_mul] at this
    omega
  rw [List.getD_eq_getElem?_getD, List.getElem?_map, List.getElem?_range hlt]
  simp only [Option.map_some, Option.getD_some]
  rw [ho i k hi hk]
  unfold pkV
  by_cases hkp : k = p
  · rw [if_pos hkp, if_pos (by rw [hp, hkp])]
  · rw [if_neg hkp, if_neg (by omega)]
theorem pk_sees {m D : Nat} {xs : List Int} {o : Nat → Nat} {us : List Nat} (hE : pkE 0 D m xs = 0) (hD : D ≤ 12) (ho : ∀ i j, i < m → j < D → canonOf (o (i * D + j)) = pkV xs i j) (hf : finF (m * D) o = true) (hq : us.length = D) (hus : ∀ x ∈ us, x < 18446744073709551616) (hu : finM us = true) : seT 0 (m : Int) (D : Int) (m * D) ((List.range (m * D)).map o) m (onesL m) 0 D us = 0 := by
  obtain ⟨m1, m2, hb⟩ := pkE_facts hE
  have hc : chkM (m : Int) (D : Int) (m * D) ((List.range (m * D)).map o) = 0 := by
    unfold chkM
    have s1 : sideB (m : Int) = true := by unfold sideB; simp; omega
    have s2 : sideB (D : Int) = true := by unfold sideB; simp; omega
    have s3 : finM ((List.range (m * D)).map o) = true := hf
    rw [s1, s2, s3, if_neg (by simp), if_neg (by simp), if_neg (by simp)]
  have hs : snE 0 (m : Int) (D : Int) (m * D) ((List.range (m * D)).map o) m (onesL m) 0 (D : Int) = 0 := by
    unfold snE
    rw [hc, if_neg (by omega), if_neg (by simp), if_neg (by omega), if_neg (by simp), ones_fin, ones_var, if_neg (by decide +kernel), if_neg (by decide +kernel)]
  obtain ⟨e1, e2⟩ := se_facts us hs
  rw [hu] at e1
  rw [e2, vt_fin (e1.trans (if_neg (by simp))), if_pos]
  rw [finF_iff]
  intro i hi
  rw [Int.toNat_natCast] at hi
  obtain ⟨p, _, _, h3, h4, h5⟩ := pk_vec hb ho hq hus hu i hi
  obtain ⟨p1, p2, _⟩ := plusQ_fin h4 h5
  rw [Int.toNat_natCast, h3]
  exact exp_finq p2
end Go.Proofs.YtfngjoaghbofgabDoor

namespace Go.Proofs.YtfngjoaghbofgabDoor
open Go.RowKit Go.IntWalk

/-- An append as one step of a straight region. -/
theorem wpList_app {ops : Array Oper} {rest : List Oper} {o : Oper} {a : Act} {w w' : World} {Q : Exit → Act → World → Prop} {r : Value} (T : TypeId)
    (hg : o.guard = none) (s x : Operand) (hop : o.op = Op.call { callee := Callee.builtin Builtin.append, args := #[s, x], argTypes := #[T, T] })
    (u v : Value) (hs : a.eval s = u) (hx : a.eval x = v) (hrun : (Builtin.append_ #[T, T] o.type #[u, v]).run Tryd.prog w = .ok r w') (hK : wpList Tryd.prog ops Q rest (a.put o.dst r) w') :
    wpList Tryd.prog ops Q (o :: rest) a w := by
  refine wpList_plain hg fun K hK2 => ?_
  unfold Oper.wp execOp
  simp only [hop, resolve, invoke, builtin, Sem.run_bind, Sem.run_pure, Result.andThen_ok, List.map_toArray, List.map_cons, List.map_nil, hs, hx, hrun]
  exact hK2 _ _ hK
theorem I64At.below {W W' : World} {sa : Option Addr} {n : Nat} {xs : List Int} (h : I64At W sa n xs) (hb : Below W.heap.size W W') : I64At W' sa n xs := by
  refine ⟨h.1, h.2.1, fun hn => ?_⟩
  obtain ⟨b, off, e, hl, hc⟩ := h.2.2 hn
  refine ⟨b, off, e, Nat.lt_of_lt_of_le hl hb.size, fun i hi => ?_⟩
  rw [hb.cell (p := ⟨b, off + i, none⟩) hl]
  exact hc i hi
theorem info_in0 : (Tryd.prog.info? 3).map (fun i => (i.zero, i.size, i.bytes)) = some (some (.int .i64 0), 1, 8) := by kernel_rfl
theorem info_in : ∃ i, Tryd.prog.info? 3 = some i ∧ i.zero = some (.int .i64 0) ∧ i.size = 1 ∧ i.bytes = 8 := by
  have h := info_in0
  cases hi : Tryd.prog.info? 3 with
  | none => rw [hi] at h; cases h
  | some i =>
    rw [hi] at h
    simp only [Option.map_some, Option.some.injEq, Prod.mk.injEq] at h
    exact ⟨i, rfl, h.1, h.2.1, h.2.2⟩
/-- append([]int{}, l...): a copy. -/
theorem append_ints (ty : TypeId) (pa : Option Addr) (m pc : Nat) (xs : List Int) (w : World) (h : I64At w pa m xs) (hm : m ≤ 17592186043904) :
    ∃ a' cap' w', (Builtin.append_ #[27, 27] ty #[.slice (some ⟨w.heap.size, 0, none⟩) 0 0, .slice pa m pc]).run Tryd.prog (w.alloc (.cells #[] 3)) = .ok (.slice a' m cap') w' ∧ I64At w' a' m xs ∧ Below w.heap.size w w' := by
  obtain ⟨i, hi, hz, hsz, hby⟩ := info_in
  have hal : Below w.heap.size w (w.alloc (.cells #[] 3)) := (Below.refl _ _).alloc (Nat.le_refl _) _
  by_cases h0 : m = 0
  · subst h0
    refine ⟨some ⟨w.heap.size, 0, none⟩, 0, w.alloc (.cells #[] 3), ?_, ⟨h.1, h.2.1, fun h => absurd rfl h⟩, hal⟩
    cases pa with
    | none => simp [Builtin.append_, run_underlying Tryd.underlying27, sizeOf, typeInfo, hi, Builtin.lenOf, Builtin.firstCells, storeCells]
    | some a => simp [Builtin.append_, run_underlying Tryd.underlying27, sizeOf, typeInfo, hi, Builtin.lenOf, Builtin.firstCells, loadCells, loadCellsFrom, storeCells]
  · obtain ⟨b, off, rfl, hbl, hc⟩ := h.2.2 h0
    have hown : (w.alloc (.cells #[] 3)).ownsRow w.heap.size 3 1 (.slice (some ⟨w.heap.size, 0, none⟩) 0 0) 0 [] := ⟨rfl, Or.inr ⟨w.heap.size, 0, #[], rfl, Nat.le_refl _, nblkM _ _, Nat.le_refl _, Nat.zero_le _, rfl, rfl⟩⟩
    have hl := h.1
    have hcell : ∀ j u, (xs.map (fun x => Value.int .i64 x))[j]? = some u → (w.alloc (.cells #[] 3)).cell? ((⟨b, off, none⟩ : Addr).add j) = some u := by
      intro j u hj
      rw [List.getElem?_map] at hj
      obtain ⟨x, hx, rfl⟩ := Option.map_eq_some_iff.1 hj
      obtain ⟨hjl, rfl⟩ := List.getElem?_eq_some_iff.1 hx
      rw [Go.WideShapes.add_plain, hal.cell (p := ⟨b, off + j, none⟩) hbl, hc j (by omega), List.getD_eq_getElem?_getD, hx]
      rfl
    obtain ⟨v', w', hr, hown', hgr, _⟩ := run_append_own (P := Tryd.prog) (w.alloc (.cells #[] 3)) w.heap.size 27 ty 3 i (.int .i64 0) 1 8 Tryd.underlying27 hi hz hsz hby rfl (by decide) (.slice (some ⟨w.heap.size, 0, none⟩) 0 0) 0 [] hown ⟨b, off, none⟩ m pc (xs.map (fun x => Value.int .i64 x)) (by simp [hl]) hcell (by intro u hu; obtain ⟨x, _, rfl⟩ := List.mem_map.1 hu; rfl) (by unfold maxLen; omega) (by omega) (by simp)
    rw [Nat.zero_add, List.nil_append] at hown'
    rcases Joins.ownsRow_forms hown' with ⟨_, h1⟩ | ⟨g, cap, rfl⟩
    · exact absurd h1 h0
    · refine ⟨some ⟨g, 0, none⟩, cap, w', hr, ⟨h.1, h.2.1, fun _ => ⟨g, 0, rfl, (hown'.lt g rfl).2, fun j hj => ?_⟩⟩, hal.trans ((Below.refl _ _).grown hgr (by simp) (fun x hx => (World.ownsRow.lt hown x hx).1))⟩
      have hcs := hown'.cells (g := g) rfl j (.int .i64 (xs.getD j 0)) (by rw [List.getElem?_map, List.getElem?_eq_getElem (by omega), List.getD_eq_getElem?_getD, List.getElem?_eq_getElem (by omega)]; rfl)
      rw [Go.WideShapes.add_plain] at hcs
      exact hcs
end Go.Proofs.YtfngjoaghbofgabDoor
