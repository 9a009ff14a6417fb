
/- The law ModelPicks. -/
import Derived.Test.YtfngjoaghbofgaaP48
namespace Go.Proofs.Ytfngjoaghbofgaa
open Go.RowKit Go.IntWalk

/-- An append as one step of a straight region. -/
theorem wpList_app {ops : Array Oper} {rest : List Oper} {o : Oper} {a : Act} {w w' : World} {Q : Exit → Act → World → Prop} {r : Value} (T : TypeId)
    (hg : o.guard = none) (s x : Operand) (hop : o.op = Op.call { callee := Callee.builtin Builtin.append, args := #[s, x], argTypes := #[T, T] })
    (u v : Value) (hs : a.eval s = u) (hx : a.eval x = v) (hrun : (Builtin.append_ #[T, T] o.type #[u, v]).run Try.prog w = .ok r w') (hK : wpList Try.prog ops Q rest (a.put o.dst r) w') :
    wpList Try.prog ops Q (o :: rest) a w := by
  refine wpList_plain hg fun K hK2 => ?_
  unfold Oper.wp execOp
  simp only [hop, resolve, invoke, builtin, Sem.run_bind, Sem.run_pure, Result.andThen_ok, List.map_toArray, List.map_cons, List.map_nil, hs, hx, hrun]
  exact hK2 _ _ hK
theorem I64At.below {W W' : World} {sa : Option Addr} {n : Nat} {xs : List Int} (h : I64At W sa n xs) (hb : Below W.heap.size W W') : I64At W' sa n xs := by
  refine ⟨h.1, h.2.1, fun hn => ?_⟩
  obtain ⟨b, off, e, hl, hc⟩ := h.2.2 hn
  refine ⟨b, off, e, Nat.lt_of_lt_of_le hl hb.size, fun i hi => ?_⟩
  rw [hb.cell (p := ⟨b, off + i, none⟩) hl]
  exact hc i hi
theorem info_in0 : (Try.prog.info? 3).map (fun i => (i.zero, i.size, i.bytes)) = some (some (.int .i64 0), 1, 8) := by kernel_rfl
theorem info_in : ∃ i, Try.prog.info? 3 = some i ∧ i.zero = some (.int .i64 0) ∧ i.size = 1 ∧ i.bytes = 8 := by
  have h := info_in0
  cases hi : Try.prog.info? 3 with
  | none => rw [hi] at h; cases h
  | some i =>
    rw [hi] at h
    simp only [Option.map_some, Option.some.injEq, Prod.mk.injEq] at h
    exact ⟨i, rfl, h.1, h.2.1, h.2.2⟩
/-- append([]int{}, l...): a copy. -/
theorem append_ints (ty : TypeId) (pa : Option Addr) (m pc : Nat) (xs : List Int) (w : World) (h : I64At w pa m xs) (hm : m ≤ 17592186043904) :
    ∃ a' cap' w', (Builtin.append_ #[62, 62] ty #[.slice (some ⟨w.heap.size, 0, none⟩) 0 0, .slice pa m pc]).run Try.prog (w.alloc (.cells #[] 3)) = .ok (.slice a' m cap') w' ∧ I64At w' a' m xs ∧ Below w.heap.size w w' := by
  obtain ⟨i, hi, hz, hsz, hby⟩ := info_in
  have hal : Below w.heap.size w (w.alloc (.cells #[] 3)) := (Below.refl _ _).alloc (Nat.le_refl _) _
  by_cases h0 : m = 0
  · subst h0
    refine ⟨some ⟨w.heap.size, 0, none⟩, 0, w.alloc (.cells #[] 3), ?_, ⟨h.1, h.2.1, fun h => absurd rfl h⟩, hal⟩
    cases pa with
    | none => simp [Builtin.append_, run_underlying Try.underlying62, sizeOf, typeInfo, hi, Builtin.lenOf, Builtin.firstCells, storeCells]
    | some a => simp [Builtin.append_, run_underlying Try.underlying62, sizeOf, typeInfo, hi, Builtin.lenOf, Builtin.firstCells, loadCells, loadCellsFrom, storeCells]
  · obtain ⟨b, off, rfl, hbl, hc⟩ := h.2.2 h0
    have hown : (w.alloc (.cells #[] 3)).ownsRow w.heap.size 3 1 (.slice (some ⟨w.heap.size, 0, none⟩) 0 0) 0 [] := ⟨rfl, Or.inr ⟨w.heap.size, 0, #[], rfl, Nat.le_refl _, nblkM _ _, Nat.le_refl _, Nat.zero_le _, rfl, rfl⟩⟩
    have hl := h.1
    have hcell : ∀ j u, (xs.map (fun x => Value.int .i64 x))[j]? = some u → (w.alloc (.cells #[] 3)).cell? ((⟨b, off, none⟩ : Addr).add j) = some u := by
      intro j u hj
      rw [List.getElem?_map] at hj
      obtain ⟨x, hx, rfl⟩ := Option.map_eq_some_iff.1 hj
      obtain ⟨hjl, rfl⟩ := List.getElem?_eq_some_iff.1 hx
      rw [Go.WideShapes.add_plain, hal.cell (p := ⟨b, off + j, none⟩) hbl, hc j (by omega), List.getD_eq_getElem?_getD, hx]
      rfl
    obtain ⟨v', w', hr, hown', hgr, _⟩ := run_append_own (P := Try.prog) (w.alloc (.cells #[] 3)) w.heap.size 62 ty 3 i (.int .i64 0) 1 8 Try.underlying62 hi hz hsz hby rfl (by decide) (.slice (some ⟨w.heap.size, 0, none⟩) 0 0) 0 [] hown ⟨b, off, none⟩ m pc (xs.map (fun x => Value.int .i64 x)) (by simp [hl]) hcell (by intro u hu; obtain ⟨x, _, rfl⟩ := List.mem_map.1 hu; rfl) (by unfold maxLen; omega) (by omega) (by simp)
    rw [Nat.zero_add, List.nil_append] at hown'
    rcases Joins.ownsRow_forms hown' with ⟨_, h1⟩ | ⟨g, cap, rfl⟩
    · exact absurd h1 h0
    · refine ⟨some ⟨g, 0, none⟩, cap, w', hr, ⟨h.1, h.2.1, fun _ => ⟨g, 0, rfl, (hown'.lt g rfl).2, fun j hj => ?_⟩⟩, hal.trans ((Below.refl _ _).grown hgr (by simp) (fun x hx => (World.ownsRow.lt hown x hx).1))⟩
      have hcs := hown'.cells (g := g) rfl j (.int .i64 (xs.getD j 0)) (by rw [List.getElem?_map, List.getElem?_eq_getElem (by omega), List.getD_eq_getElem?_getD, List.getElem?_eq_getElem (by omega)]; rfl)
      rw [Go.WideShapes.add_plain] at hcs
      exact hcs
set_option maxRecDepth 4000 in
set_option maxHeartbeats 4000000 in
theorem picks_walk (sa : Option Addr) (n cap : Nat) (K A : Nat → Int) (N F : Nat → Nat) (pa : Option Addr) (m pc : Nat) (xs : List Int) (w : World) (h : PtU w sa n K A N F) (hn : n ≤ 4398046511104) (hu : I64At w pa m xs) (hm : m ≤ 17592186043904) : Calls Try.prog 5 #[.slice sa n cap, .slice pa m pc] w fun r w' => r = .returned (.bool true) ∧ Below w.heap.size w w' := by
  have HM := hid (fun W (hW : Below w.heap.size w W) => motion_any sa n cap K A N F W (h.below hW) hn)
  have HAP := hid (fun W (hW : Below w.heap.size w W) => append_ints 62 pa m pc xs W (hu.below hW) hm)
  have HP := hid (fun ta tc qa qc W hp hq => Picks_any ta n tc K A N F qa m qc xs W hp hn hq hm)
  have HR := hid (fun ta tc W hp (hW : Below w.heap.size w W) => rPicks_any ta n tc K A N F pa m pc xs W hp hn (hu.below hW) hm)
  have HAW := hid awake14_any
  obtain ⟨E, hE⟩ : ∃ t, pkE (dmE n K A N F) (dmV n K A N F) m xs = t := ⟨_, rfl⟩
  rw [hE] at HP HR
  obtain ⟨D, hD⟩ : ∃ t, (dmV n K A N F).toNat = t := ⟨_, rfl⟩
  rw [hD] at HP HR
  have HT := hid (fun X0 X1 X2 X3 X4 Y0 Y1 Y2 Y3 Y4 W a b => told14_res E m D (pkV xs) X0 X1 Y0 Y1 X2 Y2 X3 X4 Y3 Y4 W a b)
  clear h hu hE hD
  go_enter Try.func5, Try.ntmps5
  go_wp2_with fail
  refine (HM.out _ (Below.refl _ _)).mono ?_
  rintro e w1 ⟨⟨ta, tc, rfl, hp⟩, hb1⟩
  have HB1 := hid hb1
  obtain ⟨qa, qc, w2, hrun, hq, hb2⟩ := HAP.out w1 hb1
  have HP2 := hid (hp.below hb2)
  have HQ2 := hid hq
  have HB2 := hid (HB1.out.trans (hb2.mono HB1.out.size))
  clear hp hq hb1 hb2
  go_wp2_with (first
    | (at_builtin; (refine wpList_app 62 rfl _ _ rfl (.slice (some ⟨w1.heap.size, 0, none⟩) 0 0) (.slice pa m pc) (by first | rfl | (simp [Act.eval]; done) | (simp [Act.eval, Act.put]; done)) (by first | rfl | (simp [Act.eval]; done) | (simp [Act.eval, Act.put]; done)) hrun ?_))
    | fail)
  clear hrun
  refine (HP.out ta tc qa qc _ HP2.out HQ2.out).mono ?_
  rintro e w3 ⟨⟨X0, X1, X2, X3, X4, rfl, hres⟩, hb⟩
  have HB3 := hid (HB2.out.trans (hb.mono HB2.out.size))
  have hal : Below w3.heap.size w3 (w3.alloc (MBox X0 X1 X2 X3 X4)) := (Below.refl _ _).alloc (Nat.le_refl _) _
  have HX3 := hid (hres.below hal)
  have HA3 : Hid ((w3.alloc (MBox X0 X1 X2 X3 X4)).heap[w3.heap.size]? = some (MBox X0 X1 X2 X3 X4)) := nblkM _ _
  have HB4 := hid (HB3.out.trans (hal.mono HB3.out.size))
  obtain ⟨V3, hV3⟩ : ∃ V, Hid (w3.alloc (MBox X0 X1 X2 X3 X4) = V) := ⟨_, rfl⟩
  rw [hV3.out] at HX3 HA3 HB4
  have hV3' := hV3.out
  unfold MBox at hV3'
  obtain ⟨ab, hab⟩ : ∃ t, Hid (w3.heap.size = t) := ⟨_, rfl⟩
  rw [hab.out] at HA3
  have hab' := hab.out
  clear hres hb hal
  go_wp2_with fail
  refine (HM.out _ HB4.out).mono ?_
  rintro e w5 ⟨⟨ta2, tc2, rfl, hp⟩, hb⟩
  have HB5 := hid (HB4.out.trans (hb.mono HB4.out.size))
  have HX5 := hid (HX3.out.below hb)
  have HA5 := hid (blkM HA3.out hb)
  have HP5 := hid hp
  clear hp hb
  go_wp2_with fail
  refine (HR.out ta2 tc2 _ HP5.out HB5.out).mono ?_
  rintro e w6 ⟨⟨Y0, Y1, Y2, Y3, Y4, rfl, hres⟩, hb⟩
  have HB6 := hid (HB5.out.trans (hb.mono HB5.out.size))
  have hal : Below w6.heap.size w6 (w6.alloc (MBox Y0 Y1 Y2 Y3 Y4)) := (Below.refl _ _).alloc (Nat.le_refl _) _
  have HX7 := hid ((HX5.out.below hb).below hal)
  have HY7 := hid (hres.below hal)
  have HA7 := hid (blkM (blkM HA5.out hb) hal)
  have HC7 : Hid ((w6.alloc (MBox Y0 Y1 Y2 Y3 Y4)).heap[w6.heap.size]? = some (MBox Y0 Y1 Y2 Y3 Y4)) := nblkM _ _
  have HB7 := hid (HB6.out.trans (hal.mono HB6.out.size))
  obtain ⟨V7, hV7⟩ : ∃ V, Hid (w6.alloc (MBox Y0 Y1 Y2 Y3 Y4) = V) := ⟨_, rfl⟩
  rw [hV7.out] at HX7 HY7 HA7 HC7 HB7
  have hV7' := hV7.out
  unfold MBox at hV7'
  obtain ⟨x0, x1, x2⟩ := mcells_of HA7.out
  obtain ⟨y0, y1, y2⟩ := mcells_of HC7.out
  clear hres hb hal
  go_wp2_with fail
  refine (HT.out _ _ _ _ _ _ _ _ _ _ _ HX7.out HY7.out).mono ?_
  rintro e w8 ⟨rfl, hb⟩
  have HB8 := hid (HB7.out.trans (hb.mono HB7.out.size))
  clear hb
  go_wp2_with fail
  refine (HAW.out _).mono ?_
  rintro e w9 ⟨rfl, hb⟩
  have HB9 := hid (HB8.out.trans (hb.mono HB8.out.size))
  clear hb
  go_wp2_with fail
  go_ret
  exact ⟨rfl, HB9.out⟩
end Go.Proofs.Ytfngjoaghbofgaa
