
/- The law MatrixMakes. (Written by mknfg.py.) -/
import Derived.Test.YtokeialkeadanaaP46
import Derived.Test.YtokeialkeadanaaP47
import Derived.Test.YtokeialkeadanaaP48
namespace Go.Proofs.Ytokeialkeadanaa
open Go.RowKit Go.IntWalk

/-- An append as one step of a straight region. -/
theorem wpList_apq {ops : Array Oper} {rest : List Oper} {o : Oper} {a : Act} {w w' : World} {Q : Exit → Act → World → Prop} {r : Value} (T : TypeId)
    (hg : o.guard = none) (s x : Operand) (hop : o.op = Op.call { callee := Callee.builtin Builtin.append, args := #[s, x], argTypes := #[T, T] })
    (u v : Value) (hs : a.eval s = u) (hx : a.eval x = v) (hrun : (Builtin.append_ #[T, T] o.type #[u, v]).run Try.prog w = .ok r w') (hK : wpList Try.prog ops Q rest (a.put o.dst r) w') :
    wpList Try.prog ops Q (o :: rest) a w := by
  refine wpList_plain hg fun K hK2 => ?_
  unfold Oper.wp execOp
  simp only [hop, resolve, invoke, builtin, Sem.run_bind, Sem.run_pure, Result.andThen_ok, List.map_toArray, List.map_cons, List.map_nil, hs, hx, hrun]
  exact hK2 _ _ hK
theorem lz_any (sa : Option Addr) (sn sc : Nat) (xs : List Nat) (w : World) (hu : U64At w sa sn xs) (hn : sn ≤ 17592186043904) :
    Calls Try.prog 5 #[.slice sa sn sc] w fun e w' => (∃ ta cap, e = .returned (.slice ta sn cap) ∧ FlM w' ta sn cap xs) ∧ Below w.heap.size w w' := by
  have HO := hid (l_any sa sn sc xs w hu hn)
  clear hu hn
  go_enter Try.func5, Try.ntmps5
  go_wp2_with fail
  refine HO.out.mono ?_
  rintro e w1 ⟨ta, cap, rfl, h1, h2⟩
  have HH := hid (And.intro h1 h2)
  clear h1 h2
  go_wp2_with fail
  go_ret
  exact ⟨⟨ta, cap, rfl, HH.out.1⟩, HH.out.2⟩
/-- Lists of bits that come in: their rows. -/
def RwAt (W : World) (ra : Option Addr) (N : Nat) (RA : Nat → Option Addr) (M RC : Nat → Nat) (X : Nat → List Nat) : Prop := (∀ i, i < N → U64At W (RA i) (M i) (X i) ∧ M i ≤ 17592186043904) ∧ (N ≠ 0 → ∃ b off, ra = some ⟨b, off, none⟩ ∧ b < W.heap.size ∧ ∀ i, i < N → W.cell? ⟨b, off + i, none⟩ = some (.slice (RA i) (M i) (RC i)))
/-- Numbers in a list, the list a block of its own kind. -/
def FlT (W : World) (sa : Option Addr) (n cap : Nat) (xs : List Nat) : Prop := FlM W sa n cap xs ∧ ∀ a, sa = some a → ∃ cur, W.heap[a.block]? = some (.cells cur 57 (0, 0))
theorem FlT.below {W W' : World} {sa : Option Addr} {n cap : Nat} {xs : List Nat} (h : FlT W sa n cap xs) (hb : Below W.heap.size W W') : FlT W' sa n cap xs := by
  refine ⟨h.1.below hb, fun a ha => ?_⟩
  obtain ⟨cur, hc⟩ := h.2 a ha
  exact ⟨cur, (hb.block _ (Array.getElem?_eq_some_iff.1 hc).1).trans hc⟩
theorem lt_of64 (sa : Option Addr) (sn sc : Nat) (xs : List Nat) (w : World) (hu : U64At w sa sn xs) (hn : sn ≤ 17592186043904) :
    Calls Try.prog 26 #[.slice sa sn sc] w fun r w' => ∃ ta cap, r = .returned (.slice ta sn cap) ∧ FlT w' ta sn cap xs ∧ Below w.heap.size w w' := by
  refine (Of64_any sa sn sc xs w hu hn).mono ?_
  rintro r w' ⟨v, rfl, h1, h2, h3⟩
  by_cases c : xs = []
  · obtain rfl := h2 c
    subst c
    have h0 : sn = 0 := hu.1.symm
    subst h0
    exact ⟨none, 0, rfl, ⟨⟨rfl, fun x hx => (by cases hx), Or.inl ⟨rfl, rfl, rfl⟩⟩, fun a ha => by cases ha⟩, h3⟩
  · rcases h1.2 with ⟨_, e⟩ | ⟨g, cap, cur, rfl, k1, k2, k3, k4, k5, k6⟩
    · exact absurd (List.length_eq_zero_iff.1 e) c
    · rw [hu.1] at k3 ⊢
      refine ⟨_, cap, rfl, ⟨⟨hu.1, hu.2.1, Or.inr ⟨g, 0, rfl, (Array.getElem?_eq_some_iff.1 k2).1, k3, k4, fun j hj => ?_⟩⟩, fun a ha => by cases ha; exact ⟨cur, k2⟩⟩, h3⟩
      have e1 : (cur.toList.take (xs.length * 1))[j]? = (xs.map (Value.float .f64))[j]? := by rw [k6]
      have hj2 : j < xs.length := by rw [hu.1]; exact hj
      rw [List.getElem?_take, if_pos (by omega), List.getElem?_map, List.getElem?_eq_getElem hj2] at e1
      have e2 : cur[j]? = some (.float .f64 (xs.getD j 0)) := by
        rw [← Array.getElem?_toList, e1, List.getD_eq_getElem?_getD, List.getElem?_eq_getElem hj2]
        rfl
      rw [Nat.zero_add]
      simp [World.cell?, k2, e2]
theorem lt_any (sa : Option Addr) (sn sc : Nat) (xs : List Nat) (w : World) (hu : U64At w sa sn xs) (hn : sn ≤ 17592186043904) :
    Calls Try.prog 5 #[.slice sa sn sc] w fun e w' => (∃ ta cap, e = .returned (.slice ta sn cap) ∧ FlT w' ta sn cap xs) ∧ Below w.heap.size w w' := by
  have HO := hid (lt_of64 sa sn sc xs w hu hn)
  clear hu hn
  go_enter Try.func5, Try.ntmps5
  go_wp2_with fail
  refine HO.out.mono ?_
  rintro e w1 ⟨ta, cap, rfl, h1, h2⟩
  have HH := hid (And.intro h1 h2)
  clear h1 h2
  go_wp2_with fail
  go_ret
  exact ⟨⟨ta, cap, rfl, HH.out.1⟩, HH.out.2⟩
theorem owns_keepz {w w' : World} {base size n : Nat} {e : TypeId} {v : Value} {xs : List Value} (h : w.ownsRow base e size v n xs) (hb : Below w.heap.size w w') : w'.ownsRow base e size v n xs := by
  obtain ⟨h1, h2⟩ := h
  refine ⟨h1, ?_⟩
  rcases h2 with h2 | ⟨g, cap, cur, e1, e2, e3, e4⟩
  · exact .inl h2
  · exact .inr ⟨g, cap, cur, e1, e2, (hb.block g (Array.getElem?_eq_some_iff.1 e3).1).trans e3, e4⟩
theorem own_eq {w : World} {B n : Nat} {e : TypeId} {v : Value} {xs ys : List Value} (h : w.ownsRow B e 1 v n xs) (q : xs = ys) : w.ownsRow B e 1 v n ys := by rw [← q]; exact h
theorem list_step {f g : Nat → Value} {n : Nat} {u : Value} (h : ∀ k, k < n → f k = g k) (hn : u = g n) : (List.range n).map f ++ [u] = (List.range (n + 1)).map g := by
  rw [List.range_succ, List.map_append, List.map_cons, List.map_nil, ← hn]
  congr 1
  exact List.map_congr_left (fun k hk => h k (List.mem_range.1 hk))
theorem info_fl0 : (Try.prog.info? 27).map (fun i => (i.zero, i.size, i.bytes)) = some (some (.slice none 0 0), 1, 24) := by kernel_rfl
theorem info_fl : ∃ i, Try.prog.info? 27 = some i ∧ i.zero = some (.slice none 0 0) ∧ i.size = 1 ∧ i.bytes = 24 := by
  have h := info_fl0
  cases hi : Try.prog.info? 27 with
  | none => rw [hi] at h; cases h
  | some i =>
    rw [hi] at h
    simp only [Option.map_some, Option.some.injEq, Prod.mk.injEq] at h
    exact ⟨i, rfl, h.1, h.2.1, h.2.2⟩
/-- The own row's block, if there is one, is a block of lists. -/
def OwnB (W : World) (B : Nat) (row : Option Nat) : Prop := ∀ x, row = some x → B ≤ x ∧ ∃ cur, W.heap[x]? = some (.cells cur 27 (0, 0))
/-- A list appended to lists of one's own. -/
theorem app_ls {W : World} {B k cap : Nat} {la : Option Addr} {vs : List Value} (ty : TypeId) (ta : Option Addr) (m tc : Nat) (h : W.ownsRow B 27 1 (.slice la k cap) k vs) (hk : (k + 1) * 24 ≤ 140737488355328) (hB : B ≤ W.heap.size) :
    ∃ lb lc w', (Builtin.append_ #[26, 26] ty #[.slice la k cap, .slice (some ⟨W.heap.size, 0, none⟩) 1 1]).run Try.prog (W.alloc (.cells #[.slice ta m tc] 27)) = .ok (.slice lb (k + 1) lc) w' ∧ w'.ownsRow B 27 1 (.slice lb (k + 1) lc) (k + 1) (vs ++ [.slice ta m tc]) ∧ (W.alloc (.cells #[.slice ta m tc] 27)).grownBy w' (Value.slice la k cap).ownBlock ∧ OwnB W B (Value.slice la k cap).ownBlock := by
  obtain ⟨i, hi, hz, hsz, hby⟩ := info_fl
  have hown := h.alloc (.cells #[.slice ta m tc] 27)
  obtain ⟨v', w', hr, hown', hgr, _⟩ := run_append_own (P := Try.prog) (W.alloc (.cells #[.slice ta m tc] 27)) B 26 ty 27 i (.slice none 0 0) 1 24 Try.underlying26 hi hz hsz hby rfl (by decide) (.slice la k cap) k vs hown ⟨W.heap.size, 0, none⟩ 1 1 [.slice ta m tc] rfl (fun j u hj => by
    have hj0 : j = 0 := by
      have := (List.getElem?_eq_some_iff.1 hj).1
      simpa using this
    subst hj0
    have hu : u = .slice ta m tc := by simpa using hj.symm
    subst hu
    rw [Go.WideShapes.add_plain]
    have hb := nblkM W (.cells #[.slice ta m tc] 27)
    simp only [World.cell?]
    rw [hb]
    rfl) (by intro u hu; rw [List.mem_singleton] at hu; subst hu; rfl) (by unfold maxLen; omega) hk (by rw [World.size_alloc]; omega)
  have hx : OwnB W B (Value.slice la k cap).ownBlock := fun x hx => by
    rcases h.2 with ⟨e, _⟩ | ⟨g, cp, cur, e, h2, hg, _⟩
    · rw [e] at hx; cases hx
    · rw [e] at hx
      have : g = x := by simpa [Value.ownBlock] using hx
      subst this
      exact ⟨h2, cur, hg⟩
  rcases Joins.ownsRow_forms hown' with ⟨_, h1⟩ | ⟨g, cp, rfl⟩
  · omega
  · exact ⟨_, _, w', hr, hown', hgr, hx⟩
theorem own_blk {W w' : World} {B b : Nat} {row : Option Nat} {O : Obj} {T : TypeId} {cur : Array Value} (hT : T ≠ 27) (h : W.heap[b]? = some (.cells cur T (0, 0))) (hg : (W.alloc O).grownBy w' row) (hx : OwnB W B row) : w'.heap[b]? = some (.cells cur T (0, 0)) := by
  have hl := (Array.getElem?_eq_some_iff.1 h).1
  refine (hg.block b (by rw [World.size_alloc]; omega) (fun q => ?_)).trans ((((Below.refl W.heap.size W).alloc (Nat.le_refl _) O).block b hl).trans h)
  obtain ⟨_, c2, e2⟩ := hx b q.symm
  rw [h] at e2
  simp at e2
  exact hT e2.2
theorem fl_grown {W w' : World} {sa : Option Addr} {n k B : Nat} {row : Option Nat} {xs : List Nat} {O : Obj} (h : FlT W sa n k xs) (hg : (W.alloc O).grownBy w' row) (hx : OwnB W B row) : FlT w' sa n k xs := by
  obtain ⟨⟨h1, h2, h3⟩, h4⟩ := h
  have hk : ∀ a, sa = some a → w'.heap[a.block]? = W.heap[a.block]? := fun a ha => by
    obtain ⟨cur, hc⟩ := h4 a ha
    rw [hc]
    exact own_blk (by decide) hc hg hx
  refine ⟨⟨h1, h2, ?_⟩, fun a ha => ?_⟩
  · rcases h3 with h3 | ⟨b, off, rfl, h5, h6, h7, h8⟩
    · exact Or.inl h3
    · have e := hk _ rfl
      dsimp only at e
      refine Or.inr ⟨b, off, rfl, Nat.lt_of_lt_of_le h5 (Nat.le_trans (by rw [World.size_alloc]; omega) hg.size), h6, h7, fun j hj => ?_⟩
      have hc := h8 j hj
      simp only [World.cell?, e] at hc ⊢
      exact hc
  · obtain ⟨cur, hc⟩ := h4 a ha
    exact ⟨cur, (hk a ha).trans hc⟩
theorem frm_grown {w W w' : World} {p B : Nat} {r c : Int} {sa : Option Addr} {n k : Nat} {row : Option Nat} {O : Obj} (h : FrM w W p (BBox r c sa n k)) (hg : (W.alloc O).grownBy w' row) (hx : OwnB W B row) (hB : w.heap.size ≤ B) : FrM w w' p (BBox r c sa n k) := by
  refine ⟨(h.1.trans (((Below.refl W.heap.size W).alloc (Nat.le_refl _) O).mono h.1.size)).grown hg (Nat.le_trans h.1.size (by rw [World.size_alloc]; omega)) (fun x q => Nat.le_trans hB (hx x q).1), ?_⟩
  have h2 := h.2
  unfold BBox at h2 ⊢
  exact own_blk (by decide) h2 hg hx
theorem frq_one {w W : World} {p : Nat} {O : Obj} (h : FrM w W p O) (hp : w.heap.size ≤ p) : FrQ w W [(p, O)] [] :=
  ⟨h.1, fun e he => by rw [List.mem_singleton] at he; subst he; exact ⟨h.2, hp⟩, by simp, fun _ hg => absurd hg List.not_mem_nil⟩
theorem lst_of {W : World} {B n cap : Nat} {la : Option Addr} {SA : Nat → Option Addr} {M K : Nat → Nat} {X : Nat → List Nat} (h : W.ownsRow B 27 1 (.slice la n cap) n ((List.range n).map (fun k => .slice (SA k) (M k) (K k)))) (hl : ∀ k, k < n → FlT W (SA k) (M k) (K k) (X k)) : LsT W la n SA M K X := by
  refine ⟨fun i hi => (hl i hi).1, fun hn => ?_⟩
  rcases h.2 with ⟨_, h2⟩ | ⟨g, cp, cur, e, h2, hg, h3, h4, h5, h6⟩
  · exact absurd h2 hn
  · cases e
    refine ⟨g, cur, rfl, hg, fun i hi => ?_⟩
    have e1 : (cur.toList.take (n * 1))[i]? = ((List.range n).map (fun k => Value.slice (SA k) (M k) (K k)))[i]? := by rw [h6]
    rw [List.getElem?_take, if_pos (by omega), List.getElem?_map, List.getElem?_range hi] at e1
    rw [← Array.getElem?_toList, e1]
    rfl
set_option maxRecDepth 20000 in
set_option maxHeartbeats 16000000 in
theorem mmake_walk (rx cx : Int) (sa : Option Addr) (n ka : Nat) (xs : List Nat) (r0 c0 : Int) (sd : Option Addr) (q kd : Nat) (ds : List Nat) (ra : Option Addr) (N rc : Nat) (RA : Nat → Option Addr) (M RC : Nat → Nat) (X : Nat → List Nat) (w : World) (hu : U64At w sa n xs) (hn : n ≤ 17592186043904) (hd : U64At w sd q ds) (hq : q ≤ 17592186043904) (hr : RwAt w ra N RA M RC X) (hN : N ≤ 5864062014805) :
    Calls Try.prog 3 #[.agg #[.int .i64 rx, .int .i64 cx, .slice sa n ka], .int .i64 r0, .int .i64 c0, .slice sd q kd, .slice ra N rc] w fun e w' => e = .returned (.bool true) ∧ Below w.heap.size w w' := by
  have HOX := hid (fun W (hW : Below w.heap.size w W) => of_any rx cx sa n ka xs W (hu.below hW) hn)
  have HLD := hid (fun W (hW : Below w.heap.size w W) => lz_any sd q kd ds W (hd.below hW) hq)
  have HNM := hid (And.intro hn hq)
  have HNB := hid hN
  have HRI := hid hr
  have HF : Hid (FrM w (w.alloc (BBox rx cx sa n ka)) w.heap.size (BBox rx cx sa n ka)) := ⟨(Below.refl _ _).alloc (Nat.le_refl _) _, nblkM _ _⟩
  have HPW : Hid (w.heap.size ≤ w.heap.size) := Nat.le_refl _
  obtain ⟨V, hV⟩ : ∃ V, Hid (w.alloc (BBox rx cx sa n ka) = V) := ⟨_, rfl⟩
  obtain ⟨p0, hp0⟩ : ∃ t, Hid (w.heap.size = t) := ⟨_, rfl⟩
  have HPW : Hid (w.heap.size ≤ p0) := by rw [← hp0.out]; exact Nat.le_refl _
  rw [hV.out] at HF
  have HF : Hid (FrM w V p0 (BBox rx cx sa n ka)) := by rw [← hp0.out]; exact HF.out
  have hV' := hV.out
  unfold BBox at hV'
  have hp0' := hp0.out
  clear hu hn hd hq hr hN
  go_enter Try.func3, Try.ntmps3
  go_wp2_with fail
  go_loopw [12, 11] (fun iv lv wr => ∃ (i : Nat) (la : Option Addr) (lc : Nat) (SA : Nat → Option Addr) (KK : Nat → Nat), i ≤ N ∧ iv = .int .i64 i ∧ lv = .slice la i lc ∧ Hid (wr.ownsRow w.heap.size 27 1 (.slice la i lc) i ((List.range i).map (fun k => .slice (SA k) (M k) (KK k)))) ∧ Hid (∀ k, k < i → FlT wr (SA k) (M k) (KK k) (X k)) ∧ Hid (FrM w wr p0 (BBox rx cx sa n ka))) (fun iv _ _ => N - (intOf iv).toNat)
  case atStart => exact ⟨0, none, 0, fun _ => none, fun _ => 0, Nat.zero_le _, rfl, rfl, World.ownsRow_nil _ _ _ _, fun k hk => absurd hk (Nat.not_lt_zero k), HF⟩
  case round =>
    obtain ⟨i, la, lc, SA, KK, hi, rfl, rfl, HOW, HLS, HF⟩ := hrel
    have hNN := HNB.out
    by_cases hlt : i < N
    · have hiI : (i : Int) < (N : Int) := by omega
      obtain ⟨rb, ro, rfl, hbl, hcl⟩ := HRI.out.2 (by omega)
      have hci := (HF.out.1.cell (p := ⟨rb, ro + i, none⟩) hbl).trans (hcl i hlt)
      have HLI := hid (fun W (hW : Below w.heap.size w W) => lt_any (RA i) (M i) (RC i) (X i) W ((HRI.out.1 i hlt).1.below hW) (HRI.out.1 i hlt).2)
      have HI := hid hlt
      obtain ⟨mi, hmi⟩ : ∃ t, Hid (M i = t) := ⟨_, rfl⟩
      rw [hmi.out] at hci HLI
      clear hlt hbl hcl
      go_wp2_with fail
      refine (HLI.out _ HF.out.1).mono ?_
      rintro e w1 ⟨⟨ta, tc, rfl, hf⟩, hb⟩
      obtain ⟨lb, lc2, w2, hrun, hown, hgr, hb2⟩ := app_ls 26 ta mi tc (owns_keepz HOW.out hb) (by omega) (Nat.le_trans HF.out.1.size hb.size)
      have HF2 : Hid (FrM w w2 p0 (BBox rx cx sa n ka)) := frm_grown (HF.out.call hb) hgr hb2 (Nat.le_refl _)
      have HOW2 : Hid (w2.ownsRow w.heap.size 27 1 (.slice lb (i + 1) lc2) (i + 1) ((List.range (i + 1)).map (fun k => .slice ((fun k => if k = i then ta else SA k) k) (M k) ((fun k => if k = i then tc else KK k) k)))) := by
        refine own_eq hown (list_step (fun k hk => ?_) ?_)
        · dsimp only; rw [if_neg (by omega), if_neg (by omega)]
        · dsimp only; rw [if_pos rfl, if_pos rfl, hmi.out]
      have HLS2 : Hid (∀ k, k < i + 1 → FlT w2 ((fun k => if k = i then ta else SA k) k) (M k) ((fun k => if k = i then tc else KK k) k) (X k)) := fun k hk => by
        by_cases hki : k = i
        · subst hki
          dsimp only
          rw [if_pos rfl, if_pos rfl, hmi.out]
          exact fl_grown hf hgr hb2
        · dsimp only
          rw [if_neg hki, if_neg hki]
          exact fl_grown ((HLS.out k (by omega)).below hb) hgr hb2
      clear hf hb hown hgr hb2
      go_wp2_with (first
        | (at_builtin; (refine wpList_apq 26 rfl _ _ rfl (.slice la i lc) (.slice (some ⟨w1.heap.size, 0, none⟩) 1 1) (by first | rfl | (simp [Act.eval]; done) | (simp [Act.eval, Act.put]; done)) (by first | rfl | (simp [Act.eval]; done) | (simp [Act.eval, Act.put]; done)) hrun ?_))
        | fail)
      clear hrun
      have hi1 := HI.out
      refine ⟨⟨i + 1, lb, lc2, _, _, by omega, by go_num, rfl, HOW2, HLS2, HF2⟩, ?_⟩
      simp [intOf]; omega
    · obtain rfl : N = i := by omega
      have HLT : Hid (LsT wr la N SA M KK X) := lst_of HOW.out HLS.out
      have HF : Hid (FrQ w wr [(p0, BBox rx cx sa n ka)] [fun W => LsT W la N SA M KK X]) := (frq_one HF.out HPW.out).add (kept_lst _ _ _ _ _ _) HLT.out
      clear HOW HLS
      have HCA := hid (fun W s k (h : FlM W s n k xs) => Check_any rx cx s n k xs W h HNM.out.1)
      have HCB := hid (fun W s k (h : FlM W s n k xs) => rCheck_any rx cx s n k xs W h HNM.out.1)
      unfold MV at HCA
      have HPZ := hid (fun W => Zero_tot r0 c0 W)
      have HRZ := hid (fun W => rZero_tot r0 c0 W)
      have HPY := hid (fun W => Eye_tot r0 W)
      have HRY := hid (fun W => rEye_tot r0 W)
      have HPD := hid (fun W s k (h : FlM W s q k ds) => Diag_tot s q k ds W h HNM.out.2)
      have HRD := hid (fun W s k (h : FlM W s q k ds) => rDiag_tot s q k ds W h HNM.out.2)
      have HPO := hid (fun W (h : LsT W la N SA M KK X) => Of_tot la N lc SA M KK X W h.ls)
      have HRO := hid (fun W (h : LsT W la N SA M KK X) => rOf_tot la N lc SA M KK X W h.ls)
      obtain ⟨CE, hCE⟩ : ∃ t, Hid (chkM rx cx n xs = t) := ⟨_, rfl⟩
      rw [hCE.out] at HCA HCB
      obtain ⟨ZE, hZE⟩ : ∃ t, Hid (zerE r0 c0 = t) := ⟨_, rfl⟩
      rw [hZE.out] at HPZ HRZ
      obtain ⟨YE, hYE⟩ : ∃ t, Hid (eyeE r0 = t) := ⟨_, rfl⟩
      rw [hYE.out] at HPY HRY
      obtain ⟨DE, hDE⟩ : ∃ t, Hid (lstE q ds = t) := ⟨_, rfl⟩
      rw [hDE.out] at HPD HRD
      obtain ⟨OE, hOE⟩ : ∃ t, Hid (ofE N M X = t) := ⟨_, rfl⟩
      rw [hOE.out] at HPO HRO
      obtain ⟨OC, hOC⟩ : ∃ t, Hid (ofC N M = t) := ⟨_, rfl⟩
      rw [hOC.out] at HPO HRO
      obtain ⟨R, hR⟩ : ∃ t, Hid (r0.toNat = t) := ⟨_, rfl⟩
      rw [hR.out] at HPZ HRZ HPY HRY
      obtain ⟨C, hC⟩ : ∃ t, Hid (c0.toNat = t) := ⟨_, rfl⟩
      rw [hC.out] at HPZ HRZ
      obtain ⟨dv, hdv⟩ : ∃ t, Hid (diaV ds = t) := ⟨_, rfl⟩
      rw [hdv.out] at HPD HRD
      obtain ⟨ov, hov⟩ : ∃ t, Hid (ofV X = t) := ⟨_, rfl⟩
      rw [hov.out] at HPO HRO
      obtain ⟨zv, hzv⟩ : ∃ t : Nat → Nat → Nat, Hid ((fun _ _ => 0) = t) := ⟨_, rfl⟩
      rw [hzv.out] at HPZ HRZ
      have hce : (CE != CE) = false := by simp
      have HKT : Hid (∀ W, Hid (FrQ w W [(p0, BBox rx cx sa n ka)] [fun W => LsT W la N SA M KK X]) → (W.cell? ⟨p0, 0, none⟩ = some (.int .i64 rx) ∧ W.cell? ⟨p0, 1, none⟩ = some (.int .i64 cx) ∧ W.cell? ⟨p0, 2, none⟩ = some (.slice sa n ka)) ∧ Hid (FrQ w W [(p0, BBox rx cx sa n ka)] [fun W => LsT W la N SA M KK X])) := fun W hW => by
        obtain ⟨a00, a01, a02⟩ := bcells_of (hW.out.at 0 rfl : W.heap[p0]? = some (BBox rx cx sa n ka))
        exact ⟨⟨a00, a01, a02⟩, hW⟩
      have HQ0 : Hid (FrQ w wr.drew [(p0, BBox rx cx sa n ka)] [fun W => LsT W la N SA M KK X]) := HF.out.drew
      have HQS0 : Hid (FrQ w wr.drew [(p0, BBox rx cx sa n ka)] [fun W => LsT W la N SA M KK X]) := HQ0.out.sub (.cons_cons _ .slnil) (.cons_cons _ .slnil)
      go_wp2_with fail
      refine wp_region_held_drew (S := fun W => (W.cell? ⟨p0, 0, none⟩ = some (.int .i64 rx) ∧ W.cell? ⟨p0, 1, none⟩ = some (.int .i64 cx) ∧ W.cell? ⟨p0, 2, none⟩ = some (.slice sa n ka)) ∧ Hid (FrQ w W [(p0, BBox rx cx sa n ka)] [fun W => LsT W la N SA M KK X])) (by kernel_rfl) (HKT.out _ HQS0) (fun hHeld => ?_)
      refine take_at 0 31 (.agg #[.int .i64 rx, .int .i64 cx, .slice sa n ka]) rfl rfl (by kernel_rfl) (by kernel_rfl) (by kernel_rfl) (fun _ _ _ h => h) (Or.inl ⟨by rfl, fun w hSw => by (try dsimp only at hSw); go_simp⟩) (by assumption) ?_
      simp only [Act.put, List.setIfInBounds_toArray, List.set_cons_zero, List.set_cons_succ]
      refine take_at 3 34 (.agg #[.int .i64 rx, .int .i64 cx, .slice sa n ka]) rfl rfl (by kernel_rfl) (by kernel_rfl) (by kernel_rfl) (fun _ _ _ h => h) (Or.inl ⟨by rfl, fun w hSw => by (try dsimp only at hSw); go_simp⟩) (by assumption) ?_
      simp only [Act.put, List.setIfInBounds_toArray, List.set_cons_zero, List.set_cons_succ]
      refine wpAnyH_ready (rs := [1]) (by kernel_rfl) (by simp) ?_
      refine AllReadyH.cons (o := _) rfl (fun K hK => ?_) AllReadyH.nil
      go_simp
      refine (HOX.out _ HQ0.out.bel).mono ?_
      rintro e t1 ⟨⟨t1x, k1x, rfl, hf⟩, hbq⟩
      have HQ1 := hid (HQ0.out.call hbq)
      have HQ1 := hid (HQ1.out.add (g := fun W => FlM W t1x n k1x xs) (kept_fl _ _ _ _) hf)
      clear hbq
      unfold MV
      go_wp2_with fail
      have HQS := hid (HQ1.out.sub (.cons_cons _ .slnil) (.cons _ (.cons_cons _ .slnil)))
      refine hK.out _ _ (HKT.out _ HQS) (fun hHeld1 => ?_)
      clear hK K HQS
      try simp only [Act.put, List.setIfInBounds_toArray, List.set_cons_zero, List.set_cons_succ]
      refine wpAnyH_ready (rs := [2]) (by kernel_rfl) (by simp) ?_
      refine AllReadyH.cons (o := _) rfl (fun K hK => ?_) AllReadyH.nil
      go_simp
      refine (HCA.out _ _ _ (HQ1.out.get (g := fun W => FlM W t1x n k1x xs) 0 rfl)).mono ?_
      rintro e t2 ⟨rfl, hbq⟩
      have HQ2 := hid (HQ1.out.call hbq)
      clear hbq
      go_wp2_with fail
      have HQS := hid (HQ2.out.sub (.cons_cons _ .slnil) (.cons _ (.cons_cons _ .slnil)))
      refine hK.out _ _ (HKT.out _ HQS) (fun hHeld2 => ?_)
      clear hK K HQS
      try simp only [Act.put, List.setIfInBounds_toArray, List.set_cons_zero, List.set_cons_succ]
      refine wpAnyH_ready (rs := [4]) (by kernel_rfl) (by simp) ?_
      refine AllReadyH.cons (o := _) rfl (fun K hK => ?_) AllReadyH.nil
      go_simp
      refine (HOX.out _ HQ2.out.bel).mono ?_
      rintro e t3 ⟨⟨t2x, k2x, rfl, hf⟩, hbq⟩
      have HQ3 := hid (HQ2.out.call hbq)
      have HQ3 := hid (HQ3.out.add (g := fun W => FlM W t2x n k2x xs) (kept_fl _ _ _ _) hf)
      clear hbq
      unfold MV
      go_wp2_with fail
      have HQS := hid (HQ3.out.sub (.cons_cons _ .slnil) (.cons _ (.cons _ (.cons_cons _ .slnil))))
      refine hK.out _ _ (HKT.out _ HQS) (fun hHeld3 => ?_)
      clear hK K HQS
      try simp only [Act.put, List.setIfInBounds_toArray, List.set_cons_zero, List.set_cons_succ]
      refine wpAnyH_ready (rs := [5]) (by kernel_rfl) (by simp) ?_
      refine AllReadyH.cons (o := _) rfl (fun K hK => ?_) AllReadyH.nil
      go_simp
      refine (HCB.out _ _ _ (HQ3.out.get (g := fun W => FlM W t2x n k2x xs) 0 rfl)).mono ?_
      rintro e t4 ⟨rfl, hbq⟩
      have HQ4 := hid (HQ3.out.call hbq)
      clear hbq
      go_wp2_with fail
      have HQS := hid (HQ4.out.sub (.cons_cons _ .slnil) (.cons _ (.cons _ (.cons_cons _ .slnil))))
      refine hK.out _ _ (HKT.out _ HQS) (fun hHeld4 => ?_)
      clear hK K HQS
      try simp only [Act.put, List.setIfInBounds_toArray, List.set_cons_zero, List.set_cons_succ]
      refine take_at 6 37 (.bool false) rfl rfl (by kernel_rfl) (by kernel_rfl) (by kernel_rfl) (fun _ _ _ h => h) (Or.inl ⟨by rfl, fun w hSw => by (try dsimp only at hSw); go_simp⟩) (by assumption) ?_
      simp only [Act.put, List.setIfInBounds_toArray, List.set_cons_zero, List.set_cons_succ]
      refine take_at 7 38 (.bool false) rfl rfl (by kernel_rfl) (by kernel_rfl) (by kernel_rfl) (fun _ _ _ h => h) (Or.inl ⟨by rfl, fun w hSw => by (try dsimp only at hSw); go_simp⟩) (by assumption) ?_
      simp only [Act.put, List.setIfInBounds_toArray, List.set_cons_zero, List.set_cons_succ]
      refine wpAnyH_ready (rs := [8]) (by kernel_rfl) (by simp) ?_
      refine AllReadyH.cons (o := _) rfl (fun K hK => ?_) AllReadyH.nil
      go_simp
      refine (awake8_any _).mono ?_
      rintro e t5 ⟨rfl, hbq⟩
      have HQ5 := hid (HQ4.out.call hbq)
      clear hbq
      go_wp2_with fail
      have HQS := hid (HQ5.out.sub (.cons_cons _ .slnil) (.cons _ (.cons _ (.cons_cons _ .slnil))))
      refine hK.out _ _ (HKT.out _ HQS) (fun hHeld5 => ?_)
      clear hK K HQS
      try simp only [Act.put, List.setIfInBounds_toArray, List.set_cons_zero, List.set_cons_succ]
      refine take_at 9 40 (.bool false) rfl rfl (by kernel_rfl) (by kernel_rfl) (by kernel_rfl) (fun _ _ _ h => h) (Or.inl ⟨by rfl, fun w hSw => by (try dsimp only at hSw); go_simp⟩) (by assumption) ?_
      simp only [Act.put, List.setIfInBounds_toArray, List.set_cons_zero, List.set_cons_succ]
      refine take_at 10 41 (.bool false) rfl rfl (by kernel_rfl) (by kernel_rfl) (by kernel_rfl) (fun _ _ _ h => h) (Or.inl ⟨by rfl, fun w hSw => by (try dsimp only at hSw); go_simp⟩) (by assumption) ?_
      simp only [Act.put, List.setIfInBounds_toArray, List.set_cons_zero, List.set_cons_succ]
      refine wpAnyH_done (by kernel_rfl) ?_ _
      have HF : Hid (FrQ w t5 [(p0, BBox rx cx sa n ka)] [fun W => FlM W t2x n k2x xs, fun W => FlM W t1x n k1x xs, fun W => LsT W la N SA M KK X]) := HQ5.out
      clear HKT HQ0 HQS0
      have HF : Hid (FrQ w t5 [] [fun W => LsT W la N SA M KK X]) := HF.out.sub (.cons _ .slnil) (.cons _ (.cons _ (.cons_cons _ .slnil)))
      go_wp2_with fail
      refine (HPZ.out _).mono ?_
      rintro e u1 ⟨⟨X0, X1, X2, X3, X4, rfl, hres⟩, hb⟩
      have HF : Hid (FrQ w u1 [] [fun W => LsT W la N SA M KK X]) := HF.out.call hb
      have HF : Hid (FrQ w u1 [] [fun W => ResM ZE R C zv W X0 X1 X2 X3 X4, fun W => LsT W la N SA M KK X]) := HF.out.add (kept_res _ _ _ _ _ _ _ _ _) hres
      clear hb
      clear hres
      have HF : Hid (FrQ w (u1.alloc (MBox X0 X1 X2 X3 X4)) [(u1.heap.size, MBox X0 X1 X2 X3 X4)] [fun W => ResM ZE R C zv W X0 X1 X2 X3 X4, fun W => LsT W la N SA M KK X]) := HF.out.alloc _
      obtain ⟨V2, hV2⟩ : ∃ V, Hid (u1.alloc (MBox X0 X1 X2 X3 X4) = V) := ⟨_, rfl⟩
      obtain ⟨ig, hig⟩ : ∃ t, Hid (u1.heap.size = t) := ⟨_, rfl⟩
      rw [hV2.out, hig.out] at HF
      have hV2' := hV2.out
      unfold MBox at hV2'
      have hig' := hig.out
      go_wp2_with fail
      refine (HRZ.out _).mono ?_
      rintro e u3 ⟨⟨Z0, Z1, Z2, Z3, Z4, rfl, hres⟩, hb⟩
      have HF : Hid (FrQ w u3 [(ig, MBox X0 X1 X2 X3 X4)] [fun W => ResM ZE R C zv W X0 X1 X2 X3 X4, fun W => LsT W la N SA M KK X]) := HF.out.call hb
      have HF : Hid (FrQ w u3 [(ig, MBox X0 X1 X2 X3 X4)] [fun W => ResM ZE R C zv W Z0 Z1 Z2 Z3 Z4, fun W => ResM ZE R C zv W X0 X1 X2 X3 X4, fun W => LsT W la N SA M KK X]) := HF.out.add (kept_res _ _ _ _ _ _ _ _ _) hres
      clear hb
      clear hres
      have HF : Hid (FrQ w (u3.alloc (MBox Z0 Z1 Z2 Z3 Z4)) [(u3.heap.size, MBox Z0 Z1 Z2 Z3 Z4), (ig, MBox X0 X1 X2 X3 X4)] [fun W => ResM ZE R C zv W Z0 Z1 Z2 Z3 Z4, fun W => ResM ZE R C zv W X0 X1 X2 X3 X4, fun W => LsT W la N SA M KK X]) := HF.out.alloc _
      obtain ⟨V4, hV4⟩ : ∃ V, Hid (u3.alloc (MBox Z0 Z1 Z2 Z3 Z4) = V) := ⟨_, rfl⟩
      obtain ⟨ih, hih⟩ : ∃ t, Hid (u3.heap.size = t) := ⟨_, rfl⟩
      rw [hV4.out, hih.out] at HF
      have hV4' := hV4.out
      unfold MBox at hV4'
      have hih' := hih.out
      obtain ⟨c00, c01, c02⟩ := mcells_of (HF.out.at 1 rfl : V4.heap[ig]? = some (MBox X0 X1 X2 X3 X4))
      obtain ⟨c10, c11, c12⟩ := mcells_of (HF.out.at 0 rfl : V4.heap[ih]? = some (MBox Z0 Z1 Z2 Z3 Z4))
      go_wp2_with fail
      refine (told_res ZE R C zv _ _ _ _ _ _ _ _ _ _ _ (HF.out.get (g := fun W => ResM ZE R C zv W X0 X1 X2 X3 X4) 1 rfl) (fun _ => (HF.out.get (g := fun W => ResM ZE R C zv W Z0 Z1 Z2 Z3 Z4) 0 rfl))).mono ?_
      rintro e u5 ⟨rfl, hb⟩
      have HF : Hid (FrQ w u5 [(ih, MBox Z0 Z1 Z2 Z3 Z4), (ig, MBox X0 X1 X2 X3 X4)] [fun W => ResM ZE R C zv W Z0 Z1 Z2 Z3 Z4, fun W => ResM ZE R C zv W X0 X1 X2 X3 X4, fun W => LsT W la N SA M KK X]) := HF.out.call hb
      clear hb
      have HF : Hid (FrQ w u5 [(ih, MBox Z0 Z1 Z2 Z3 Z4), (ig, MBox X0 X1 X2 X3 X4)] [fun W => LsT W la N SA M KK X]) := HF.out.sub (.cons_cons _ (.cons_cons _ .slnil)) (.cons _ (.cons _ (.cons_cons _ .slnil)))
      go_wp2_with fail
      refine (HPY.out _).mono ?_
      rintro e u6 ⟨⟨J0, J1, J2, J3, J4, rfl, hres⟩, hb⟩
      have HF : Hid (FrQ w u6 [(ih, MBox Z0 Z1 Z2 Z3 Z4), (ig, MBox X0 X1 X2 X3 X4)] [fun W => LsT W la N SA M KK X]) := HF.out.call hb
      have HF : Hid (FrQ w u6 [(ih, MBox Z0 Z1 Z2 Z3 Z4), (ig, MBox X0 X1 X2 X3 X4)] [fun W => ResM YE R R eyeV W J0 J1 J2 J3 J4, fun W => LsT W la N SA M KK X]) := HF.out.add (kept_res _ _ _ _ _ _ _ _ _) hres
      clear hb
      clear hres
      obtain ⟨z0, z1, z2⟩ := mcells_of (HF.out.at 1 rfl : u6.heap[ig]? = some (MBox X0 X1 X2 X3 X4))
      have fz := frzM (HF.out.at 1 rfl : u6.heap[ig]? = some (MBox X0 X1 X2 X3 X4))
      have HF : Hid (FrQ w (StoM u6 ig J0 J1 J2 J3 J4) [(ih, MBox Z0 Z1 Z2 Z3 Z4), (ig, MBox J0 J1 J2 J3 J4)] [fun W => ResM YE R R eyeV W J0 J1 J2 J3 J4, fun W => LsT W la N SA M KK X]) := HF.out.sto 1 rfl
      obtain ⟨U7, hU7⟩ : ∃ V, Hid ((StoM u6 ig J0 J1 J2 J3 J4) = V) := ⟨_, rfl⟩
      rw [hU7.out] at HF
      have hU7' := hU7.out
      unfold StoM at hU7'
      go_wp2_with fail
      refine (HRY.out _).mono ?_
      rintro e u8 ⟨⟨Q0, Q1, Q2, Q3, Q4, rfl, hres⟩, hb⟩
      have HF : Hid (FrQ w u8 [(ih, MBox Z0 Z1 Z2 Z3 Z4), (ig, MBox J0 J1 J2 J3 J4)] [fun W => ResM YE R R eyeV W J0 J1 J2 J3 J4, fun W => LsT W la N SA M KK X]) := HF.out.call hb
      have HF : Hid (FrQ w u8 [(ih, MBox Z0 Z1 Z2 Z3 Z4), (ig, MBox J0 J1 J2 J3 J4)] [fun W => ResM YE R R eyeV W Q0 Q1 Q2 Q3 Q4, fun W => ResM YE R R eyeV W J0 J1 J2 J3 J4, fun W => LsT W la N SA M KK X]) := HF.out.add (kept_res _ _ _ _ _ _ _ _ _) hres
      clear hb
      clear hres
      obtain ⟨z0, z1, z2⟩ := mcells_of (HF.out.at 0 rfl : u8.heap[ih]? = some (MBox Z0 Z1 Z2 Z3 Z4))
      have fz := frzM (HF.out.at 0 rfl : u8.heap[ih]? = some (MBox Z0 Z1 Z2 Z3 Z4))
      have HF : Hid (FrQ w (StoM u8 ih Q0 Q1 Q2 Q3 Q4) [(ih, MBox Q0 Q1 Q2 Q3 Q4), (ig, MBox J0 J1 J2 J3 J4)] [fun W => ResM YE R R eyeV W Q0 Q1 Q2 Q3 Q4, fun W => ResM YE R R eyeV W J0 J1 J2 J3 J4, fun W => LsT W la N SA M KK X]) := HF.out.sto 0 rfl
      obtain ⟨U9, hU9⟩ : ∃ V, Hid ((StoM u8 ih Q0 Q1 Q2 Q3 Q4) = V) := ⟨_, rfl⟩
      rw [hU9.out] at HF
      have hU9' := hU9.out
      unfold StoM at hU9'
      obtain ⟨c00, c01, c02⟩ := mcells_of (HF.out.at 1 rfl : U9.heap[ig]? = some (MBox J0 J1 J2 J3 J4))
      obtain ⟨c10, c11, c12⟩ := mcells_of (HF.out.at 0 rfl : U9.heap[ih]? = some (MBox Q0 Q1 Q2 Q3 Q4))
      go_wp2_with fail
      refine (told_res YE R R eyeV _ _ _ _ _ _ _ _ _ _ _ (HF.out.get (g := fun W => ResM YE R R eyeV W J0 J1 J2 J3 J4) 1 rfl) (fun _ => (HF.out.get (g := fun W => ResM YE R R eyeV W Q0 Q1 Q2 Q3 Q4) 0 rfl))).mono ?_
      rintro e u10 ⟨rfl, hb⟩
      have HF : Hid (FrQ w u10 [(ih, MBox Q0 Q1 Q2 Q3 Q4), (ig, MBox J0 J1 J2 J3 J4)] [fun W => ResM YE R R eyeV W Q0 Q1 Q2 Q3 Q4, fun W => ResM YE R R eyeV W J0 J1 J2 J3 J4, fun W => LsT W la N SA M KK X]) := HF.out.call hb
      clear hb
      have HF : Hid (FrQ w u10 [(ih, MBox Q0 Q1 Q2 Q3 Q4), (ig, MBox J0 J1 J2 J3 J4)] [fun W => LsT W la N SA M KK X]) := HF.out.sub (.cons_cons _ (.cons_cons _ .slnil)) (.cons _ (.cons _ (.cons_cons _ .slnil)))
      go_wp2_with fail
      refine (HLD.out _ HF.out.bel).mono ?_
      rintro e u11 ⟨⟨tx, kx, rfl, hf⟩, hb⟩
      have HF : Hid (FrQ w u11 [(ih, MBox Q0 Q1 Q2 Q3 Q4), (ig, MBox J0 J1 J2 J3 J4)] [fun W => LsT W la N SA M KK X]) := HF.out.call hb
      have HF : Hid (FrQ w u11 [(ih, MBox Q0 Q1 Q2 Q3 Q4), (ig, MBox J0 J1 J2 J3 J4)] [fun W => FlM W tx q kx ds, fun W => LsT W la N SA M KK X]) := HF.out.add (kept_fl _ _ _ _) hf
      clear hb
      clear hf
      go_wp2_with fail
      refine (HPD.out _ _ _ (HF.out.get (g := fun W => FlM W tx q kx ds) 0 rfl)).mono ?_
      rintro e u12 ⟨⟨D0, D1, D2, D3, D4, rfl, hres⟩, hb⟩
      have HF : Hid (FrQ w u12 [(ih, MBox Q0 Q1 Q2 Q3 Q4), (ig, MBox J0 J1 J2 J3 J4)] [fun W => FlM W tx q kx ds, fun W => LsT W la N SA M KK X]) := HF.out.call hb
      have HF : Hid (FrQ w u12 [(ih, MBox Q0 Q1 Q2 Q3 Q4), (ig, MBox J0 J1 J2 J3 J4)] [fun W => ResM DE q q dv W D0 D1 D2 D3 D4, fun W => FlM W tx q kx ds, fun W => LsT W la N SA M KK X]) := HF.out.add (kept_res _ _ _ _ _ _ _ _ _) hres
      clear hb
      clear hres
      have HF : Hid (FrQ w u12 [(ih, MBox Q0 Q1 Q2 Q3 Q4), (ig, MBox J0 J1 J2 J3 J4)] [fun W => ResM DE q q dv W D0 D1 D2 D3 D4, fun W => LsT W la N SA M KK X]) := HF.out.sub (.cons_cons _ (.cons_cons _ .slnil)) (.cons_cons _ (.cons _ (.cons_cons _ .slnil)))
      obtain ⟨z0, z1, z2⟩ := mcells_of (HF.out.at 1 rfl : u12.heap[ig]? = some (MBox J0 J1 J2 J3 J4))
      have fz := frzM (HF.out.at 1 rfl : u12.heap[ig]? = some (MBox J0 J1 J2 J3 J4))
      have HF : Hid (FrQ w (StoM u12 ig D0 D1 D2 D3 D4) [(ih, MBox Q0 Q1 Q2 Q3 Q4), (ig, MBox D0 D1 D2 D3 D4)] [fun W => ResM DE q q dv W D0 D1 D2 D3 D4, fun W => LsT W la N SA M KK X]) := HF.out.sto 1 rfl
      obtain ⟨U13, hU13⟩ : ∃ V, Hid ((StoM u12 ig D0 D1 D2 D3 D4) = V) := ⟨_, rfl⟩
      rw [hU13.out] at HF
      have hU13' := hU13.out
      unfold StoM at hU13'
      go_wp2_with fail
      refine (HLD.out _ HF.out.bel).mono ?_
      rintro e u14 ⟨⟨ty, ky, rfl, hf⟩, hb⟩
      have HF : Hid (FrQ w u14 [(ih, MBox Q0 Q1 Q2 Q3 Q4), (ig, MBox D0 D1 D2 D3 D4)] [fun W => ResM DE q q dv W D0 D1 D2 D3 D4, fun W => LsT W la N SA M KK X]) := HF.out.call hb
      have HF : Hid (FrQ w u14 [(ih, MBox Q0 Q1 Q2 Q3 Q4), (ig, MBox D0 D1 D2 D3 D4)] [fun W => FlM W ty q ky ds, fun W => ResM DE q q dv W D0 D1 D2 D3 D4, fun W => LsT W la N SA M KK X]) := HF.out.add (kept_fl _ _ _ _) hf
      clear hb
      clear hf
      go_wp2_with fail
      refine (HRD.out _ _ _ (HF.out.get (g := fun W => FlM W ty q ky ds) 0 rfl)).mono ?_
      rintro e u15 ⟨⟨G0, G1, G2, G3, G4, rfl, hres⟩, hb⟩
      have HF : Hid (FrQ w u15 [(ih, MBox Q0 Q1 Q2 Q3 Q4), (ig, MBox D0 D1 D2 D3 D4)] [fun W => FlM W ty q ky ds, fun W => ResM DE q q dv W D0 D1 D2 D3 D4, fun W => LsT W la N SA M KK X]) := HF.out.call hb
      have HF : Hid (FrQ w u15 [(ih, MBox Q0 Q1 Q2 Q3 Q4), (ig, MBox D0 D1 D2 D3 D4)] [fun W => ResM DE q q dv W G0 G1 G2 G3 G4, fun W => FlM W ty q ky ds, fun W => ResM DE q q dv W D0 D1 D2 D3 D4, fun W => LsT W la N SA M KK X]) := HF.out.add (kept_res _ _ _ _ _ _ _ _ _) hres
      clear hb
      clear hres
      have HF : Hid (FrQ w u15 [(ih, MBox Q0 Q1 Q2 Q3 Q4), (ig, MBox D0 D1 D2 D3 D4)] [fun W => ResM DE q q dv W G0 G1 G2 G3 G4, fun W => ResM DE q q dv W D0 D1 D2 D3 D4, fun W => LsT W la N SA M KK X]) := HF.out.sub (.cons_cons _ (.cons_cons _ .slnil)) (.cons_cons _ (.cons _ (.cons_cons _ (.cons_cons _ .slnil))))
      obtain ⟨z0, z1, z2⟩ := mcells_of (HF.out.at 0 rfl : u15.heap[ih]? = some (MBox Q0 Q1 Q2 Q3 Q4))
      have fz := frzM (HF.out.at 0 rfl : u15.heap[ih]? = some (MBox Q0 Q1 Q2 Q3 Q4))
      have HF : Hid (FrQ w (StoM u15 ih G0 G1 G2 G3 G4) [(ih, MBox G0 G1 G2 G3 G4), (ig, MBox D0 D1 D2 D3 D4)] [fun W => ResM DE q q dv W G0 G1 G2 G3 G4, fun W => ResM DE q q dv W D0 D1 D2 D3 D4, fun W => LsT W la N SA M KK X]) := HF.out.sto 0 rfl
      obtain ⟨U16, hU16⟩ : ∃ V, Hid ((StoM u15 ih G0 G1 G2 G3 G4) = V) := ⟨_, rfl⟩
      rw [hU16.out] at HF
      have hU16' := hU16.out
      unfold StoM at hU16'
      obtain ⟨c00, c01, c02⟩ := mcells_of (HF.out.at 1 rfl : U16.heap[ig]? = some (MBox D0 D1 D2 D3 D4))
      obtain ⟨c10, c11, c12⟩ := mcells_of (HF.out.at 0 rfl : U16.heap[ih]? = some (MBox G0 G1 G2 G3 G4))
      go_wp2_with fail
      refine (told_res DE q q dv _ _ _ _ _ _ _ _ _ _ _ (HF.out.get (g := fun W => ResM DE q q dv W D0 D1 D2 D3 D4) 1 rfl) (fun _ => (HF.out.get (g := fun W => ResM DE q q dv W G0 G1 G2 G3 G4) 0 rfl))).mono ?_
      rintro e u17 ⟨rfl, hb⟩
      have HF : Hid (FrQ w u17 [(ih, MBox G0 G1 G2 G3 G4), (ig, MBox D0 D1 D2 D3 D4)] [fun W => ResM DE q q dv W G0 G1 G2 G3 G4, fun W => ResM DE q q dv W D0 D1 D2 D3 D4, fun W => LsT W la N SA M KK X]) := HF.out.call hb
      clear hb
      have HF : Hid (FrQ w u17 [(ih, MBox G0 G1 G2 G3 G4), (ig, MBox D0 D1 D2 D3 D4)] [fun W => LsT W la N SA M KK X]) := HF.out.sub (.cons_cons _ (.cons_cons _ .slnil)) (.cons _ (.cons _ (.cons_cons _ .slnil)))
      go_wp2_with fail
      refine (HPO.out _ (HF.out.get (g := fun W => LsT W la N SA M KK X) 0 rfl)).mono ?_
      rintro e u18 ⟨⟨S0, S1, S2, S3, S4, rfl, hres⟩, hb⟩
      have HF : Hid (FrQ w u18 [(ih, MBox G0 G1 G2 G3 G4), (ig, MBox D0 D1 D2 D3 D4)] [fun W => LsT W la N SA M KK X]) := HF.out.call hb
      have HF : Hid (FrQ w u18 [(ih, MBox G0 G1 G2 G3 G4), (ig, MBox D0 D1 D2 D3 D4)] [fun W => ResM OE N OC ov W S0 S1 S2 S3 S4, fun W => LsT W la N SA M KK X]) := HF.out.add (kept_res _ _ _ _ _ _ _ _ _) hres
      clear hb
      clear hres
      obtain ⟨z0, z1, z2⟩ := mcells_of (HF.out.at 1 rfl : u18.heap[ig]? = some (MBox D0 D1 D2 D3 D4))
      have fz := frzM (HF.out.at 1 rfl : u18.heap[ig]? = some (MBox D0 D1 D2 D3 D4))
      have HF : Hid (FrQ w (StoM u18 ig S0 S1 S2 S3 S4) [(ih, MBox G0 G1 G2 G3 G4), (ig, MBox S0 S1 S2 S3 S4)] [fun W => ResM OE N OC ov W S0 S1 S2 S3 S4, fun W => LsT W la N SA M KK X]) := HF.out.sto 1 rfl
      obtain ⟨U19, hU19⟩ : ∃ V, Hid ((StoM u18 ig S0 S1 S2 S3 S4) = V) := ⟨_, rfl⟩
      rw [hU19.out] at HF
      have hU19' := hU19.out
      unfold StoM at hU19'
      go_wp2_with fail
      refine (HRO.out _ (HF.out.get (g := fun W => LsT W la N SA M KK X) 1 rfl)).mono ?_
      rintro e u20 ⟨⟨T0, T1, T2, T3, T4, rfl, hres⟩, hb⟩
      have HF : Hid (FrQ w u20 [(ih, MBox G0 G1 G2 G3 G4), (ig, MBox S0 S1 S2 S3 S4)] [fun W => ResM OE N OC ov W S0 S1 S2 S3 S4, fun W => LsT W la N SA M KK X]) := HF.out.call hb
      have HF : Hid (FrQ w u20 [(ih, MBox G0 G1 G2 G3 G4), (ig, MBox S0 S1 S2 S3 S4)] [fun W => OE = 0 → ResL N OC ov W T0 T1 T2 T3 T4, fun W => ResM OE N OC ov W S0 S1 S2 S3 S4, fun W => LsT W la N SA M KK X]) := HF.out.add (kept_resl _ _ _ _ _ _ _ _ _) hres
      clear hb
      clear hres
      obtain ⟨z0, z1, z2⟩ := mcells_of (HF.out.at 0 rfl : u20.heap[ih]? = some (MBox G0 G1 G2 G3 G4))
      have fz := frzM (HF.out.at 0 rfl : u20.heap[ih]? = some (MBox G0 G1 G2 G3 G4))
      have HF : Hid (FrQ w (StoM u20 ih T0 T1 T2 T3 T4) [(ih, MBox T0 T1 T2 T3 T4), (ig, MBox S0 S1 S2 S3 S4)] [fun W => OE = 0 → ResL N OC ov W T0 T1 T2 T3 T4, fun W => ResM OE N OC ov W S0 S1 S2 S3 S4, fun W => LsT W la N SA M KK X]) := HF.out.sto 0 rfl
      obtain ⟨U21, hU21⟩ : ∃ V, Hid ((StoM u20 ih T0 T1 T2 T3 T4) = V) := ⟨_, rfl⟩
      rw [hU21.out] at HF
      have hU21' := hU21.out
      unfold StoM at hU21'
      obtain ⟨c00, c01, c02⟩ := mcells_of (HF.out.at 1 rfl : U21.heap[ig]? = some (MBox S0 S1 S2 S3 S4))
      obtain ⟨c10, c11, c12⟩ := mcells_of (HF.out.at 0 rfl : U21.heap[ih]? = some (MBox T0 T1 T2 T3 T4))
      go_wp2_with fail
      refine (told_resL OE N OC ov _ _ _ _ _ _ _ _ _ _ _ (HF.out.get (g := fun W => ResM OE N OC ov W S0 S1 S2 S3 S4) 1 rfl) (HF.out.get (g := fun W => OE = 0 → ResL N OC ov W T0 T1 T2 T3 T4) 0 rfl)).mono ?_
      rintro e u22 ⟨rfl, hb⟩
      have HF : Hid (FrQ w u22 [(ih, MBox T0 T1 T2 T3 T4), (ig, MBox S0 S1 S2 S3 S4)] [fun W => OE = 0 → ResL N OC ov W T0 T1 T2 T3 T4, fun W => ResM OE N OC ov W S0 S1 S2 S3 S4, fun W => LsT W la N SA M KK X]) := HF.out.call hb
      clear hb
      have HF : Hid (FrQ w u22 [(ih, MBox T0 T1 T2 T3 T4), (ig, MBox S0 S1 S2 S3 S4)] [fun W => LsT W la N SA M KK X]) := HF.out.sub (.cons_cons _ (.cons_cons _ .slnil)) (.cons _ (.cons _ (.cons_cons _ .slnil)))
      go_wp2_with fail
      go_ret
      exact ⟨rfl, HF.out.bel⟩
end Go.Proofs.Ytokeialkeadanaa
