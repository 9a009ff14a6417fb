
/- model: the axes of any motion that may be. -/
import Derived.Test.YtggiklghcnojiaaP39
namespace Go.Proofs.Ytggiklghcnojiaa
open Go.RowKit Go.IntWalk

/-- The functions of a kind. -/
def fnF (k : Int) : Nat := if k = 0 then 23 else if k = 1 then 23 else if k = 2 then 27 else if k = 3 then 30 else 33
def fnQ (k : Int) : Nat := if k = 0 then 24 else if k = 1 then 25 else if k = 2 then 28 else if k = 3 then 31 else 25
def fnG (k : Int) : Nat := if k = 0 then 24 else if k = 1 then 26 else if k = 2 then 29 else if k = 3 then 32 else 26
theorem kindOf_ok (k a : Int) (n f : Nat) (w : World) (h : szK k ≠ 0) : Calls Try.prog 16 #[.agg #[.int .i64 k, .int .i64 a, .float .f64 n, .float .f64 f]] w fun r w' => r = .returned (.agg #[.int .i64 (szK k), .func (.func (fnF k)) #[] #[], .func (.func (fnQ k)) #[] #[], .func (.func (fnG k)) #[] #[]]) ∧ Below w.heap.size w w' := by
  by_cases h0 : k = 0
  · subst h0
    exact kindOf_zero a n f w
  by_cases h1 : k = 1
  · subst h1
    exact kindOf_one a n f w
  by_cases h2 : k = 2
  · subst h2
    exact kindOf_two a n f w
  by_cases h3 : k = 3
  · subst h3
    exact kindOf_three a n f w
  by_cases h4 : k = 4
  · subst h4
    exact kindOf_four a n f w
  exact absurd (by unfold szK; rw [if_neg (by simp [h0, h1, h4]), if_neg h2, if_neg h3]) h
/-- Part and axis, one behind the other. -/
def axP (A : Nat → Int) : Nat → List (Nat × Nat)
  | 0 => []
  | i + 1 => axP A i ++ (List.range (A i).toNat).map (fun j => (i, j))
/-- The seven cells of one. -/
def axC (K A : Nat → Int) (e : Nat × Nat) : List Value := [.int .i64 (e.1 : Int), .int .i64 (e.2 : Int), .int .i64 (uS (ptS K A) e.1 + (e.2 : Int) * szK (K e.1)), .int .i64 (szK (K e.1)), .func (.func (fnF (K e.1))) #[] #[], .func (.func (fnQ (K e.1))) #[] #[], .func (.func (fnG (K e.1))) #[] #[]]
theorem axC_len (K A : Nat → Int) (L : List (Nat × Nat)) : (L.flatMap (axC K A)).length = L.length * 7 := by
  induction L with
  | nil => rfl
  | cons e L ih => rw [List.flatMap_cons, List.length_append, ih, List.length_cons]; show 7 + L.length * 7 = _; omega
theorem axC_get (K A : Nat → Int) (L : List (Nat × Nat)) (t c : Nat) (hc : c < 7) (ht : t < L.length) : (L.flatMap (axC K A))[t * 7 + c]? = (axC K A L[t])[c]? := by
  induction L generalizing t with
  | nil => exact absurd ht (Nat.not_lt_zero _)
  | cons e L ih =>
    rw [List.flatMap_cons]
    have h7 : (axC K A e).length = 7 := rfl
    cases t with
    | zero => rw [Nat.zero_mul, Nat.zero_add, List.getElem?_append_left (by omega)]; rfl
    | succ t =>
      rw [List.getElem?_append_right (by omega), h7, show (t + 1) * 7 + c - 7 = t * 7 + c by omega, ih t (by simpa using ht)]
      rfl
theorem axC_one (K A : Nat → Int) (e : Nat × Nat) : ∀ u ∈ axC K A e, u.oneCell' = true := by
  intro u hu
  simp [axC] at hu
  rcases hu with h | h | h | h | h | h | h <;> (rw [h]; rfl)
theorem axP_mem {A : Nat → Int} {n : Nat} {e : Nat × Nat} : e ∈ axP A n ↔ e.1 < n ∧ (e.2 : Int) < A e.1 := by
  induction n with
  | zero => simp [axP]
  | succ n ih =>
    show e ∈ axP A n ++ (List.range (A n).toNat).map (fun j => (n, j)) ↔ _
    rw [List.mem_append, ih, List.mem_map]
    constructor
    · rintro (h | ⟨j, hj, rfl⟩)
      · exact ⟨by omega, h.2⟩
      · have := List.mem_range.1 hj
        exact ⟨Nat.lt_succ_self _, by show (j : Int) < A n; omega⟩
    · rintro ⟨h1, h2⟩
      by_cases h : e.1 < n
      · exact Or.inl ⟨h, h2⟩
      · have he : e.1 = n := by omega
        refine Or.inr ⟨e.2, List.mem_range.2 (by rw [he] at h2; omega), ?_⟩
        rw [← he]
theorem axP_len {K A : Nat → Int} {N F : Nat → Nat} {n : Nat} (h : ∀ i, i < n → ptEs K A N F i = 0) : ((axP A n).length : Int) ≤ uS (ptS K A) n := by
  induction n with
  | zero => exact Int.le_refl _
  | succ n ih =>
    have a := ih (fun i hi => h i (by omega))
    obtain ⟨_, _, h3, h4, _⟩ := ptS_in (h n (by omega))
    show ((axP A n ++ (List.range (A n).toNat).map (fun j => (n, j))).length : Int) ≤ uS (ptS K A) n + A n * szK (K n)
    rw [List.length_append, List.length_map, List.length_range]
    have : A n * 1 ≤ A n * szK (K n) := Int.mul_le_mul_of_nonneg_left h4 (by omega)
    omega
def KBx (z : Int) (p q g : Nat) : Obj := .cells #[.int .i64 z, .func (.func p) #[] #[], .func (.func q) #[] #[], .func (.func g) #[] #[]] 53
theorem owns_keepB {w w' : World} {base size n : Nat} {e : TypeId} {v : Value} {xs : List Value} (h : w.ownsRow base e size v n xs) (hb : Below w.heap.size w w') : w'.ownsRow base e size v n xs := by
  obtain ⟨h1, h2⟩ := h
  refine ⟨h1, ?_⟩
  rcases h2 with h2 | ⟨g, cap, cur, e1, e2, e3, e4⟩
  · exact .inl h2
  · exact .inr ⟨g, cap, cur, e1, e2, (hb.block g (Array.getElem?_eq_some_iff.1 e3).1).trans e3, e4⟩
theorem kx_keep {W W' : World} {base n kb : Nat} {v : Value} {xs : List Value} {z : Int} {p q g : Nat} (hO : W.ownsRow base 62 7 v n xs) (hK : W.heap[kb]? = some (KBx z p q g)) (hg : W.grownBy W' v.ownBlock) : W'.heap[kb]? = some (KBx z p q g) := by
  refine (hg.block kb (Array.getElem?_eq_some_iff.1 hK).1 ?_).trans hK
  intro hc
  rcases hO.2 with ⟨rfl, _⟩ | ⟨g', cap, cur, rfl, _, e3, _⟩
  · cases hc
  · simp only [Value.ownBlock, Option.some.injEq] at hc
    rw [← hc, hK] at e3
    unfold KBx at e3
    simp at e3
theorem kxcells_of {W : World} {b : Nat} {z : Int} {p q g : Nat} (h : W.heap[b]? = some (KBx z p q g)) : W.cell? ⟨b, 0, none⟩ = some (.int .i64 z) ∧ W.cell? ⟨b, 1, none⟩ = some (.func (.func p) #[] #[]) ∧ W.cell? ⟨b, 2, none⟩ = some (.func (.func q) #[] #[]) ∧ W.cell? ⟨b, 3, none⟩ = some (.func (.func g) #[] #[]) := by
  unfold KBx at h
  refine ⟨?_, ?_, ?_, ?_⟩ <;> simp [World.cell?, h]
theorem ax_step (K A : Nat → Int) (i j : Nat) : (axP A i ++ (List.range j).map (fun j => (i, j))).flatMap (axC K A) ++ axC K A (i, j) = (axP A i ++ (List.range (j + 1)).map (fun j => (i, j))).flatMap (axC K A) := by
  rw [List.range_succ, List.map_append, ← List.append_assoc, List.flatMap_append (xs := axP A i ++ _)]
  simp
theorem ax_more (A : Nat → Int) (i j : Nat) : (axP A i ++ (List.range (j + 1)).map (fun j => (i, j))).length = (axP A i ++ (List.range j).map (fun j => (i, j))).length + 1 := by
  simp
  omega
theorem fst_step {u z D : Int} {j : Nat} (hD : u + (j : Int) * z = D) (h0 : 0 ≤ D) (h1 : D ≤ 12) (hz : 1 ≤ z ∧ z ≤ 3) : wrap64 (D + z) = D + z ∧ IntKind.i64.wrap (D + z) = D + z ∧ D + z = u + ((j + 1 : Nat) : Int) * z := by
  refine ⟨wrap64_in _ (by omega), IntWalk.i64_in _ (by omega), ?_⟩
  rw [← hD, Int.natCast_add, Int.add_mul]
  omega
set_option maxRecDepth 2000 in
set_option maxHeartbeats 4000000 in
theorem axes_any (sa : Option Addr) (n cap : Nat) (K A : Nat → Int) (N F : Nat → Nat) (w : World) (h : PtF w sa n K A N F) (hn : n ≤ 4398046511104) (hE : dmE n K A N F = 0) : Calls Try.prog 35 #[.agg #[.slice sa n cap]] w fun r w' => (∃ v, r = .returned v ∧ w'.ownsRow w.heap.size 62 7 v (axP A n).length ((axP A n).flatMap (axC K A))) ∧ Below w.heap.size w w' := by
  obtain ⟨h0, x1, x2, x3, x4, x5⟩ := dm_zero hE
  have HX1 := hid (scE_all x1)
  have HX4 := hid x4
  have HP := hid h
  have HB0 : Hid (Below w.heap.size w (w.alloc (MoBox sa n cap)) ∧ (w.alloc (MoBox sa n cap)).heap[w.heap.size]? = some (MoBox sa n cap)) := ⟨(Below.refl _ _).alloc (Nat.le_refl _) _, nblkM _ _⟩
  obtain ⟨V, hV⟩ : ∃ V, Hid (w.alloc (MoBox sa n cap) = V) := ⟨_, rfl⟩
  rw [hV.out] at HB0
  have hV' := hV.out
  unfold MoBox at hV'
  have c0 := mocell_of HB0.out.2
  have hst := fstoreM
  obtain ⟨b, off, rfl, hbl, hcl⟩ := HP.out.2 h0
  have HC := hid (fun W (hW : Below w.heap.size w W) i hi => pt_at hbl hcl hW i hi)
  clear hcl h0 x1 x2 x3 x4 x5 h hE
  go_enter Try.func35, Try.ntmps35
  go_wp2_with fail
  clear c0
  go_loopw [3, 4, 12] (fun ov fv iv wr => ∃ (i : Nat) (D : Int), i ≤ n ∧ iv = .int .i64 i ∧ fv = .int .i64 D ∧ Hid (uS (ptS K A) i = D) ∧ Hid (wr.ownsRow w.heap.size 62 7 ov (axP A i).length ((axP A i).flatMap (axC K A))) ∧ Hid (Below w.heap.size w wr)) (fun _ _ iv _ => n - (intOf iv).toNat)
  case atStart => exact ⟨0, 0, Nat.zero_le _, rfl, rfl, rfl, World.ownsRow_nil _ _ _ _, HB0.out.1⟩
  case round =>
    obtain ⟨i, D, hi, rfl, rfl, HD, HO, HBW⟩ := hrel
    by_cases hlt : i < n
    · obtain ⟨p0, p1, p2, p3⟩ := HC.out wr HBW.out i hlt
      have HE := hid (HX1.out i hlt)
      obtain ⟨_, _, hA, hz1, hz3⟩ := ptS_in HE.out
      have HKO := hid (fun W => kindOf_ok (K i) (A i) (N i) (F i) W (by omega))
      have hiI : (i : Int) < (n : Int) := by omega
      have HUS : Hid (∀ j : Nat, (j : Int) ≤ A i → 0 ≤ uS (ptS K A) i + (j : Int) * szK (K i) ∧ uS (ptS K A) i + (j : Int) * szK (K i) ≤ 12) := fun j hj => by
        obtain ⟨a1, a2, a3⟩ := HX4.out i (by omega)
        obtain ⟨b1, b2, b3⟩ := HX4.out (i + 1) (by omega)
        have c1 : uS (ptS K A) (i + 1) = uS (ptS K A) i + A i * szK (K i) := rfl
        have c2 : (j : Int) * szK (K i) ≤ A i * szK (K i) := Int.mul_le_mul_of_nonneg_right hj (by omega)
        have c3 : 0 ≤ (j : Int) * szK (K i) := Int.mul_nonneg (by omega) (by omega)
        omega
      have HLN : Hid (∀ j : Nat, (j : Int) < A i → (axP A i ++ (List.range j).map (fun j => (i, j))).length ≤ 12) := fun j hj => by
        have a := axP_len (K := K) (A := A) (N := N) (F := F) (n := i) (fun q hq => HX1.out q (by omega))
        have b := (HUS.out j (by omega)).2
        have c2 : (j : Int) * 1 ≤ (j : Int) * szK (K i) := Int.mul_le_mul_of_nonneg_left hz1 (by omega)
        rw [List.length_append, List.length_map, List.length_range]
        omega
      have HCC : Hid (∀ j : Nat, axC K A (i, j) = [.int .i64 (i : Int), .int .i64 (j : Int), .int .i64 (uS (ptS K A) i + (j : Int) * szK (K i)), .int .i64 (szK (K i)), .func (.func (fnF (K i))) #[] #[], .func (.func (fnQ (K i))) #[] #[], .func (.func (fnG (K i))) #[] #[]]) := fun j => rfl
      have HNX : Hid (uS (ptS K A) i + A i * szK (K i) = uS (ptS K A) (i + 1)) := rfl
      rw [HD.out] at HUS HCC HNX
      have HAX : Hid (∀ j : Nat, (j : Int) = A i → axP A i ++ (List.range j).map (fun j => (i, j)) = axP A (i + 1)) := fun j hj => by
        show _ = axP A i ++ (List.range (A i).toNat).map (fun j => (i, j))
        rw [← hj, Int.toNat_natCast]
      obtain ⟨k1, hk1⟩ : ∃ t, K i = t := ⟨_, rfl⟩
      obtain ⟨a1, ha1⟩ : ∃ t, A i = t := ⟨_, rfl⟩
      obtain ⟨n1, hn1⟩ : ∃ t, N i = t := ⟨_, rfl⟩
      obtain ⟨f1, hf1⟩ : ∃ t, F i = t := ⟨_, rfl⟩
      rw [hk1, ha1, hn1, hf1] at HKO
      rw [hk1] at p0 HUS HCC hz1 hz3 HNX
      rw [ha1] at p1 hA HUS HLN HNX HAX
      rw [hn1] at p2
      rw [hf1] at p3
      obtain ⟨z, hz⟩ : ∃ t, szK k1 = t := ⟨_, rfl⟩
      rw [hz] at HKO HUS HCC hz1 hz3 HNX
      obtain ⟨g1, hg1⟩ : ∃ t, fnF k1 = t := ⟨_, rfl⟩
      obtain ⟨g2, hg2⟩ : ∃ t, fnQ k1 = t := ⟨_, rfl⟩
      obtain ⟨g3, hg3⟩ : ∃ t, fnG k1 = t := ⟨_, rfl⟩
      rw [hg1, hg2, hg3] at HKO HCC
      have HZ : Hid (1 ≤ z ∧ z ≤ 3) := ⟨hz1, hz3⟩
      have HB1 : Hid (Below w.heap.size w (wr.alloc (PBox k1 a1 n1 f1)) ∧ (wr.alloc (PBox k1 a1 n1 f1)).heap[wr.heap.size]? = some (PBox k1 a1 n1 f1)) := ⟨HBW.out.alloc HBW.out.size _, nblkM _ _⟩
      have HO1 := hid (HO.out.alloc (PBox k1 a1 n1 f1))
      obtain ⟨V1, hV1⟩ : ∃ V, Hid (wr.alloc (PBox k1 a1 n1 f1) = V) := ⟨_, rfl⟩
      rw [hV1.out] at HB1 HO1
      have hV1' := hV1.out
      unfold PBox at hV1'
      obtain ⟨q0, q1, q2, q3⟩ := ptcells_of HB1.out.2
      clear hk1 ha1 hn1 hf1 hz hg1 hg2 hg3
      go_wp2_with fail
      refine (HKO.out _).mono ?_
      rintro e w2 ⟨rfl, hb⟩
      have HB2 : Hid (Below w.heap.size w w2 ∧ w2.heap[wr.heap.size]? = some (PBox k1 a1 n1 f1)) := ⟨HB1.out.1.trans (hb.mono HB1.out.1.size), blkM HB1.out.2 hb⟩
      have HO2 := hid (owns_keepB HO1.out hb)
      clear hb
      have hal : Below w2.heap.size w2 (w2.alloc (KBx z g1 g2 g3)) := (Below.refl _ _).alloc (Nat.le_refl _) _
      have HB3 : Hid (Below w.heap.size w (w2.alloc (KBx z g1 g2 g3)) ∧ (w2.alloc (KBx z g1 g2 g3)).heap[wr.heap.size]? = some (PBox k1 a1 n1 f1) ∧ (w2.alloc (KBx z g1 g2 g3)).heap[w2.heap.size]? = some (KBx z g1 g2 g3)) := ⟨HB2.out.1.alloc HB2.out.1.size _, blkM HB2.out.2 hal, nblkM _ _⟩
      have HO3 := hid (HO2.out.alloc (KBx z g1 g2 g3))
      obtain ⟨V3, hV3⟩ : ∃ V, Hid (w2.alloc (KBx z g1 g2 g3) = V) := ⟨_, rfl⟩
      rw [hV3.out] at HB3 HO3
      have hV3' := hV3.out
      unfold KBx at hV3'
      obtain ⟨s0, s1, s2, s3⟩ := ptcells_of HB3.out.2.1
      obtain ⟨kb, hkb⟩ : ∃ t, Hid (w2.heap.size = t) := ⟨_, rfl⟩
      have hkb' := hkb.out
      rw [hkb.out] at HB3
      clear hal
      go_wp2_with fail
      clear s0 s1 s2 s3 p0 p1 p2 p3 q0 q1 q2 q3
      go_loopw [3, 4, 21] (fun ov fv jv wi => ∃ (j : Nat) (G : Int), (j : Int) ≤ a1 ∧ jv = .int .i64 j ∧ fv = .int .i64 G ∧ Hid (D + (j : Int) * z = G) ∧ Hid (wi.heap[kb]? = some (KBx z g1 g2 g3)) ∧ Hid (wi.ownsRow w.heap.size 62 7 ov (axP A i ++ (List.range j).map (fun j => (i, j))).length ((axP A i ++ (List.range j).map (fun j => (i, j))).flatMap (axC K A))) ∧ Hid (Below w.heap.size w wi)) (fun _ _ jv _ => a1.toNat - (intOf jv).toNat)
      case atStart => exact ⟨0, D, by omega, rfl, rfl, by show D + (0 : Int) * z = D; omega, HB3.out.2.2, by show World.ownsRow _ _ _ _ _ _ _; simpa using HO3.out, HB3.out.1⟩
      case round =>
        obtain ⟨j, G, hj, rfl, rfl, HG, HKB, HOI, HBI⟩ := hrel
        by_cases hjl : (j : Int) < a1
        · obtain ⟨k0, k1', k2, k3⟩ := kxcells_of HKB.out
          obtain ⟨i0, hi0, hz0, hz1', hz2⟩ := info_ax
          have hown := HOI.out
          have hbs := HBI.out.size
          have hln := HLN.out j hjl
          have hcc := HCC.out j
          rw [HG.out] at hcc
          have hus := HUS.out j hj
          rw [HG.out] at hus
          obtain ⟨y1, y2, y3⟩ := fst_step HG.out hus.1 hus.2 HZ.out
          have HY3 : Hid (D + ((j + 1 : Nat) : Int) * z = G + z) := y3.symm
          have HHC := hid hcc
          clear hcc hus y3
          go_wp2_with (first
            | (at_builtin; (refine wpList_append_own _ rfl _ _ 59 rfl w.heap.size 62 i0 (.agg #[.int .i64 0, .int .i64 0, .int .i64 0, .int .i64 0, .nilFunc, .nilFunc, .nilFunc]) 7 56 Try.underlying59 hi0 hz0 hz1' hz2 rfl (by decide) _ _ _ rfl (hown.alloc _) ⟨wr.heap.size, 0, none⟩ 1 1 (axC K A (i, j)) rfl rfl ?c1 ?c2 ?c3 ?c4 ?c5 ?_))
            | fail)
          case c1 =>
            intro q u hq
            rw [HHC.out] at hq
            match q, hq with
            | 0, hq => simp at hq; subst hq; simp [Addr.add]
            | 1, hq => simp at hq; subst hq; simp [Addr.add]
            | 2, hq => simp at hq; subst hq; simp [Addr.add]
            | 3, hq => simp at hq; subst hq; simp [Addr.add]
            | 4, hq => simp at hq; subst hq; simp [Addr.add]
            | 5, hq => simp at hq; subst hq; simp [Addr.add]
            | 6, hq => simp at hq; subst hq; simp [Addr.add]
          case c2 => exact axC_one K A (i, j)
          case c3 => unfold maxLen; omega
          case c4 => omega
          case c5 => simp; omega
          intro mv' w9 hown' hgrow _
          have HO9 : Hid (w9.ownsRow w.heap.size 62 7 mv' (axP A i ++ (List.range (j + 1)).map (fun j => (i, j))).length ((axP A i ++ (List.range (j + 1)).map (fun j => (i, j))).flatMap (axC K A))) := by
            show World.ownsRow _ _ _ _ _ _ _
            rw [ax_more, ← ax_step]
            simpa using hown'
          have HB9 := hid ((HBI.out.alloc hbs _).grown hgrow (by simp; omega) (fun x hx => (World.ownsRow.lt hown x hx).1))
          have HK9 := hid (kx_keep (hown.alloc _) (blkM HKB.out ((Below.refl _ _).alloc (Nat.le_refl _) _)) hgrow)
          obtain ⟨k0, k1', k2, k3⟩ := kxcells_of HK9.out
          clear hown' hgrow hown hln
          go_wp2_with fail
          go_roundw
          case rel => exact ⟨j + 1, G + z, by omega, by go_num, rfl, HY3, HK9, HO9, HB9⟩
          case measure => simp [intOf]; omega
        · have hja : (j : Int) = a1 := by omega
          have HAX2 := hid (HAX.out j hja)
          have HG2 : Hid (uS (ptS K A) (i + 1) = G) := by
            show _ = G
            rw [← HNX.out, ← hja, HG.out]
          rw [HAX2.out] at HOI
          go_wp2_with fail
          go_roundw
          case rel => exact ⟨i + 1, G, by omega, by go_num, rfl, HG2, HOI, HBI⟩
          case measure => simp [intOf]; omega
    · obtain rfl : i = n := by omega
      have hiI : ¬ (i : Int) < (i : Int) := by omega
      go_wp2_with fail
      go_ret
      exact ⟨⟨_, rfl, HO.out⟩, HBW.out⟩
end Go.Proofs.Ytggiklghcnojiaa
