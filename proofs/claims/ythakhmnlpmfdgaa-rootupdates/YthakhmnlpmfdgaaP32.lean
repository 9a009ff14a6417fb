
/- root.foreseen of a root and a row that may be. (Written by mkrtd.py.) -/
import Derived.Test.YthakhmnlpmfdgaaP31
namespace Go.Proofs.Ythakhmnlpmfdgaa
open Go.RowKit Go.IntWalk

/-- How a row goes along with each column. -/
def alV (f : Nat → Nat) (hs : List Nat) (n : Nat) (j : Nat) : Nat := dotM (fun k => f (k * n + j)) (fun k => hs.getD k 0) n
/-- The variance with the last so many columns. -/
def sumA (v : Nat → Nat) (x n : Nat) : Nat → Nat
  | 0 => canonOf x
  | d + 1 => caf .add (sumA v x n d) (caf .mul (v (n - 1 - d)) (v (n - 1 - d)))
def forE (n : Nat) (f : Nat → Nat) (hs zs : List Nat) (x : Nat) : Int := if (finF n (alV f hs n) && finB (dotW hs zs n) && finB (sumA (alV f hs n) x n n)) = true then 0 else 5
def OBox (M : Nat) (va : Option Addr) (vk vc : Nat) (aa : Option Addr) (ak ac : Nat) : Obj := .cells #[.float .f64 M, .slice va vk vc, .slice aa ak ac] 63
theorem ocells_of {w : World} {b M : Nat} {va : Option Addr} {vk vc : Nat} {aa : Option Addr} {ak ac : Nat} (h : w.heap[b]? = some (OBox M va vk vc aa ak ac)) : w.cell? ⟨b, 0, none⟩ = some (.float .f64 M) ∧ w.cell? ⟨b, 1, none⟩ = some (.slice va vk vc) ∧ w.cell? ⟨b, 2, none⟩ = some (.slice aa ak ac) := by
  unfold OBox at h
  refine ⟨?_, ?_, ?_⟩ <;> simp [World.cell?, h]
theorem ofrz {w : World} {b M : Nat} {va : Option Addr} {vk vc : Nat} {aa : Option Addr} {ak ac : Nat} (h : w.heap[b]? = some (OBox M va vk vc aa ak ac)) (o : Nat) : w.frozen? ⟨b, o, none⟩ = false := by
  unfold OBox at h
  simp [World.frozen?, h]
/-- What is foreseen: its list of how the row goes along, its sums. -/
def OutR (E : Int) (n : Nat) (v : Nat → Nat) (x M0 : Nat) (W : World) (M : Nat) (va : Option Addr) (vk vc : Nat) (aa : Option Addr) (ak ac : Nat) : Prop :=
  (E = 0 ∧ M = M0 ∧ vk = n ∧ ak = n + 1 ∧ ∃ o a : Nat → Nat, FnM W va n vc o ∧ (∀ i, i < n → canonOf (o i) = v i) ∧ FnM W aa (n + 1) ac a ∧ ∀ j, j ≤ n → canonOf (a j) = sumA v x n (n - j)) ∨ (E ≠ 0 ∧ M = 0 ∧ va = none ∧ vk = 0 ∧ vc = 0 ∧ aa = none ∧ ak = 0 ∧ ac = 0)
def FrO (w W : World) (p q : Nat) (A B : Obj) : Prop := Below w.heap.size w W ∧ W.heap[p]? = some A ∧ W.heap[q]? = some B
theorem FrO.call {w W W' : World} {p q : Nat} {A B : Obj} (h : FrO w W p q A B) (hb : Below W.heap.size W W') : FrO w W' p q A B := ⟨h.1.trans (hb.mono h.1.size), blkM h.2.1 hb, blkM h.2.2 hb⟩
theorem oset_below {w W : World} {B q : Nat} (h : Below B w W) (hq : B ≤ q) (a b c : Value) : Below B w (((W.setCell ⟨q, 0, none⟩ a).setCell ⟨q, 1, none⟩ b).setCell ⟨q, 2, none⟩ c) := ((h.setCell (p := ⟨q, 0, none⟩) hq _).setCell (p := ⟨q, 1, none⟩) hq _).setCell (p := ⟨q, 2, none⟩) hq _
theorem fin_turned {n : Nat} {f o : Nat → Nat} (h : finF (n * n) (fun j => f j) = true) (hv : ∀ i j, i < n → j < n → o (i * n + j) = f (j * n + i)) : finF (n * n) o = true := by
  rw [finF_iff] at h ⊢
  intro k hk
  obtain ⟨q1, q2, q3⟩ := split_k hk
  rw [← q3, hv _ _ q1 q2]
  exact h _ (place_lt q2 q1)
set_option maxRecDepth 4000 in
set_option maxHeartbeats 1000000 in
theorem MulVec_new (r c n m : Nat) (sa sb : Option Addr) (ka kb : Nat) (f g : Nat → Nat) (w : World) (ha : Gd w r c sa n ka f) (hb : FnM w sb m kb g) (hf : finF m g = true) (hs : c = m) :
    Calls Try.prog 53 #[MV r c sa n ka, .slice sb m kb] w fun e w' => (∃ (q : Nat) (o : Nat → Nat), w.heap.size ≤ q ∧ e = .returned (AnsL r q o) ∧ FnM w' (some ⟨q, 0, none⟩) r r o ∧ ∀ i, i < r → canonOf (o i) = dotM (fun k => f (i * c + k)) g c) ∧ Below w.heap.size w w' := by
  have HB0 : Hid (Below w.heap.size w (w.alloc (MBox r c sa n ka))) := (Below.refl _ _).alloc (Nat.le_refl _) _
  have HN0 := hid (nblkM w (MBox r c sa n ka))
  obtain ⟨z0, z1, z2⟩ := mcells_of (w := w.alloc (MBox r c sa n ka)) (b := w.heap.size) (nblkM _ _)
  obtain ⟨W0, hW0⟩ : ∃ V, Hid (w.alloc (MBox r c sa n ka) = V) := ⟨_, rfl⟩
  rw [hW0.out] at HB0 z0 z1 z2 HN0
  have l1 := ha.1
  have l2 := ha.2.1
  have HC := hid (Check_any r c sa n ka _ W0 (ha.below HB0.out).2.2.2.1.fl (by have := ha.le; omega))
  rw [ha.chk] at HC
  have HL := hid (fun W (hW : Below w.heap.size w W) => chkL_any sb m kb _ W (hb.below hW).fl (by omega))
  have hl0 : lstE m ((List.range m).map g) = 0 := by
    unfold lstE
    rw [if_neg (by omega), if_neg (by have := hf; unfold finF at this; rw [this]; simp)]
  rw [hl0] at HL
  have HR : Hid (∀ W, Below w.heap.size w W → Calls Try.prog 77 #[.agg #[.int .i64 r, .int .i64 c, .slice sa n ka], .agg #[.int .i64 1, .int .i64 m, .slice sb m kb]] W fun e w' => FillR (fun i j x => canonOf x = dotM (fun k => f (i * c + k)) (fun k => g (j * c + k)) c) r 1 (r * 1) W.heap.size e w' ∧ Below W.heap.size W w') := fun W hW => by
    subst hs
    exact byRows_any r 1 c n c sa sb ka kb f g W (ha.below hW).2.2.2.1 (hb.below hW) (by rw [ha.2.2.1]; exact Nat.le_refl _) (by omega) (by omega) (by omega) (by omega)
  have HM : Hid (r * 1 ≤ 9223372036854775807) := by show _ ≤ _; omega
  have HL1 := hid l1
  have hne : ((c : Int) != (m : Int)) = false := by rw [hs]; simp
  have hW := hW0.out
  unfold MBox at hW
  unfold MV at HC ⊢
  clear ha hb hf hs l1 l2 hl0
  go_enter Try.func53, Try.ntmps53
  go_wp2_with fail
  refine HC.out.mono ?_
  rintro e w1 ⟨rfl, hb1⟩
  have HB1 := hid (HB0.out.trans (hb1.mono HB0.out.size))
  have HN1 := hid (blkM HN0.out hb1)
  clear hb1
  go_wp2_with fail
  refine (HL.out _ HB1.out).mono ?_
  rintro e w2 ⟨rfl, hb2⟩
  have HB2 := hid (HB1.out.trans (hb2.mono HB1.out.size))
  have HN2 := hid (blkM HN1.out hb2)
  obtain ⟨y0, y1, y2⟩ := mcells_of HN2.out
  clear hb2
  go_wp2_with fail
  refine (HR.out _ HB2.out).mono ?_
  rintro e u1 ⟨hfi, hb3⟩
  obtain ⟨q, o, rfl, hq, hfn, hP⟩ := hfi.fn HM.out
  have HQ : Hid (w.heap.size ≤ q) := Nat.le_trans HB2.out.size hq
  have HB3 := hid (HB2.out.trans (hb3.mono HB2.out.size))
  have HF := hid hfn
  have HP : Hid (∀ i, i < r → canonOf (o i) = dotM (fun k => f (i * c + k)) g c) := fun i hi => by
    have := hP i 0 hi (by omega)
    rw [show i * 1 + 0 = i by omega] at this
    rw [this]
    exact dotM_congr c (fun _ _ => rfl) (fun k _ => by rw [show 0 * c + k = k by omega])
  rw [Nat.mul_one] at HF
  unfold MV
  clear hfi hb3 hq hfn hP
  rw [Nat.mul_one]
  go_wp2_with fail
  refine (answered_any r 1 r _ r o u1 HF.out (by have := HL1.out; omega)).mono ?_
  rintro e u2 ⟨rfl, hk, hb4⟩
  have HB4 := hid (HB3.out.trans (hb4.mono HB3.out.size))
  have HF2 := hid (hk _ _ _ _ HF.out)
  obtain ⟨X0, X1, X2, X3, X4, hXX⟩ : ∃ a b s m k, Hid ((if finF r o = true then MV r 1 (some ⟨q, 0, none⟩) r r else MV 0 0 none 0 0) = MV a b s m k ∧ (if finF r o = true then .slice (some ⟨q, 0, none⟩) r r else .slice none 0 0 : Value) = .slice s m k) := by
    by_cases c : finF r o = true
    · exact ⟨r, 1, some ⟨q, 0, none⟩, r, r, by show _ ∧ _; rw [if_pos c, if_pos c]; exact ⟨rfl, rfl⟩⟩
    · exact ⟨0, 0, none, 0, 0, by show _ ∧ _; rw [if_neg c, if_neg c]; exact ⟨rfl, rfl⟩⟩
  obtain ⟨E, hE⟩ : ∃ E, Hid ((if finF r o = true then 0 else 5 : Int) = E) := ⟨_, rfl⟩
  have HA : Hid (AnsL r q o = .tuple #[.slice X2 X3 X4, .int .i64 E]) := by show _ = _; unfold AnsL; rw [hXX.out.2, hE.out]
  rw [hXX.out.1, hE.out]
  unfold MV
  clear hk hb4
  go_wp2_with fail
  exact bodyPost_ret (v := .tuple #[.slice X2 X3 X4, .int .i64 E]) (by simp [results, Try.results53, go_sem]) rfl ⟨⟨q, o, HQ.out, by rw [HA.out], HF2.out.below ((Below.refl _ _).alloc (Nat.le_refl _) _), HP.out⟩, HB4.out.trans (((Below.refl _ _).alloc (Nat.le_refl _) _).mono HB4.out.size)⟩

/-- How a row goes along, in new memory. -/
def AlR (E : Int) (n : Nat) (v : Nat → Nat) (W w' : World) (s : Option Addr) (k l : Nat) : Prop := (E = 0 ∧ ∃ (g : Nat) (o : Nat → Nat), s = some ⟨g, 0, none⟩ ∧ k = n ∧ l = n ∧ W.heap.size ≤ g ∧ FnM w' (some ⟨g, 0, none⟩) n n o ∧ ∀ i, i < n → canonOf (o i) = v i) ∨ (E ≠ 0 ∧ s = none ∧ k = 0 ∧ l = 0)
theorem FnM.oset {W : World} {b n cap q : Nat} {f : Nat → Nat} (h : FnM W (some ⟨b, 0, none⟩) n cap f) (hb : b ≠ q) (x y z : Value) : FnM (((W.setCell ⟨q, 0, none⟩ x).setCell ⟨q, 1, none⟩ y).setCell ⟨q, 2, none⟩ z) (some ⟨b, 0, none⟩) n cap f := by
  rcases h with ⟨h, _⟩ | ⟨b', off, e, h1, h2, h3, h4⟩
  · cases h
  · cases e
    refine Or.inr ⟨b, 0, rfl, by simpa [World.setCell] using h1, h2, h3, fun j hj => ⟨?_, (h4 j hj).2⟩⟩
    refine (World.cell?_of_block ?_).trans (h4 j hj).1
    show _ = W.heap[b]?
    rw [set_keepM hb, set_keepM hb, set_keepM hb]
theorem fin_sgl (g : Nat) : finM [g] = finB g := by
  unfold finM finB expOf canonOf
  rw [Bool.eq_iff_iff]
  by_cases h : 9218868437227405312 < g % 9223372036854775808
  · simp [h]
    omega
  · simp [h]
    omega
theorem colv_any (n m kh kg : Nat) (ha g : Option Addr) (f oT : Nat → Nat) (hs : List Nat) (W : World) (hg : Gd W n n g m kg oT) (ho : ∀ i j, i < n → j < n → oT (i * n + j) = f (j * n + i)) (hH : FlM W ha n kh hs) (fh : finM hs = true) :
    Calls Try.prog 53 #[.agg #[.int .i64 n, .int .i64 n, .slice g m kg], .slice ha n kh] W fun e w' => (∃ s k l, e = .returned (.tuple #[.slice s k l, .int .i64 (if finF n (alV f hs n) = true then 0 else 5)]) ∧ AlR (if finF n (alV f hs n) = true then 0 else 5) n (alV f hs n) W w' s k l) ∧ Below W.heap.size W w' := by
  refine (MulVec_new n n m n g ha kg kh oT _ W hg hH.fn (fin_get hH.1 fh) rfl).mono ?_
  rintro e w' ⟨⟨q, o, hq, rfl, hf, hv⟩, hbb⟩
  have hv2 : ∀ i, i < n → canonOf (o i) = alV f hs n i := fun i hi => by
    rw [hv i hi]
    unfold alV
    exact dotM_congr n (fun k hk => ho i k hi hk) (fun _ _ => rfl)
  have hfe : finF n o = finF n (alV f hs n) := finF_canon hv2
  unfold AnsL
  rw [hfe]
  by_cases hfin : finF n (alV f hs n) = true
  · exact ⟨⟨some ⟨q, 0, none⟩, n, n, by rw [if_pos hfin, if_pos hfin], Or.inl ⟨by rw [if_pos hfin], q, o, rfl, rfl, rfl, hq, hf, hv2⟩⟩, hbb⟩
  · exact ⟨⟨none, 0, 0, by rw [if_neg hfin, if_neg hfin], Or.inr ⟨by rw [if_neg hfin]; decide, rfl, rfl, rfl⟩⟩, hbb⟩
theorem dothx_any (n kh kx : Nat) (ha xa : Option Addr) (hs zs : List Nat) (W : World) (hH : FlM W ha n kh hs) (hX : FlM W xa n kx zs) (fh : finM hs = true) (fz : finM zs = true) (hn : n ≤ 12) :
    Calls Try.prog 54 #[.slice ha n kh, .slice xa n kx] W fun e w' => e = .returned (.tuple #[.float .f64 (if finB (dotW hs zs n) = true then dotW hs zs n else 0), .int .i64 (if finB (dotW hs zs n) = true then 0 else 5)]) ∧ Below W.heap.size W w' := by
  have h := Dot_tot n n kh kx ha xa hs zs W hH hX (by omega) (by omega)
  have l1 : lstE n hs = 0 := by unfold lstE; rw [if_neg (by omega), if_neg (by rw [fh]; decide)]
  have l2 : lstE n zs = 0 := by unfold lstE; rw [if_neg (by omega), if_neg (by rw [fz]; decide)]
  have h0 : dotE n hs n zs = 0 := by unfold dotE eqE; rw [l1, l2, if_pos rfl]; rfl
  have h1 : dotT n hs n zs = if finB (dotW hs zs n) = true then 0 else 5 := by unfold dotT; rw [if_pos h0]
  unfold dotD at h
  rw [h1] at h
  by_cases q : finB (dotW hs zs n) = true
  · rw [if_pos q, if_pos rfl] at h; rw [if_pos q, if_pos q]; exact h
  · rw [if_neg q, if_neg (by decide)] at h; rw [if_neg q, if_neg q]; exact h
set_option maxRecDepth 8000 in
set_option maxHeartbeats 8000000 in
theorem foreseen_any (n m ka kx kh x : Nat) (xa sa ha : Option Addr) (zs hs : List Nat) (f : Nat → Nat) (w : World) (hX : FlM w xa n kx zs) (hL : Gd w n n sa m ka f) (hH : FlM w ha n kh hs) (hx : x < 18446744073709551616) (fz : finM zs = true) (fh : finM hs = true) :
    Calls Try.prog 20 #[.agg #[.slice xa n kx, .int .i64 n, .int .i64 n, .slice sa m ka], .slice ha n kh, .float .f64 x] w fun e w' => (∃ M va vk vc aa ak ac, e = .returned (.tuple #[.agg #[.float .f64 M, .slice va vk vc, .slice aa ak ac], .int .i64 (forE n f hs zs x)]) ∧ OutR (forE n f hs zs x) n (alV f hs n) x (dotW hs zs n) w' M va vk vc aa ak ac) ∧ Below w.heap.size w w' := by
  obtain ⟨t1, t2, t3, t4⟩ := two_b w (RBox xa n kx n n sa m ka) (OBox 0 none 0 0 none 0 0)
  have HT := hid (fun W (hW : Below w.heap.size w W) => Trn_ok n n m sa ka f W (hL.below hW))
  have HMV := hid (fun W g kg oT (hW : Below w.heap.size w W) (hg : Gd W n n g m kg oT) (ho : ∀ i j, i < n → j < n → oT (i * n + j) = f (j * n + i)) => colv_any n m kh kg ha g f oT hs W hg ho (hH.below hW) fh)
  have HDT := hid (fun W (hW : Below w.heap.size w W) => dothx_any n kh kx ha xa hs zs W (hH.below hW) (hX.below hW) fh fz hL.1)
  have HN := hid hL.1
  have HM : Hid (m = n * n) := hL.2.2.1
  have HX := hid hx
  have HSQ : Hid (finF (n * n) (fun j => f j) = true) := by have := hL.2.2.2.2; rw [hL.2.2.1] at this; exact this
  have r1 := ar_run .add ok_a
  have r3 := ar_run .mul ok_m
  have hst := fstoreM
  obtain ⟨V, hV⟩ : ∃ V, Hid ((w.alloc (RBox xa n kx n n sa m ka)).alloc (OBox 0 none 0 0 none 0 0) = V) := ⟨_, rfl⟩
  rw [hV.out] at t1 t2 t3 t4
  have hV' := hV.out
  unfold RBox OBox at hV'
  obtain ⟨p, hp⟩ : ∃ t, Hid (w.heap.size = t) := ⟨_, rfl⟩
  obtain ⟨q, hq⟩ : ∃ t, Hid (p + 1 = t) := ⟨_, rfl⟩
  rw [hp.out] at t1 t2
  rw [hq.out] at t2
  have hp' := hp.out
  have hq' := hq.out
  have HPQ : Hid (p ≠ q ∧ w.heap.size ≤ p ∧ w.heap.size ≤ q) := by have := hp.out; have := hq.out; exact ⟨by omega, by omega, by omega⟩
  have HF0 : Hid (FrO w V p q (RBox xa n kx n n sa m ka) (OBox 0 none 0 0 none 0 0)) := ⟨t3, t1, t2⟩
  unfold forE
  obtain ⟨B1, hB1⟩ : ∃ t, Hid (finF n (alV f hs n) = t) := ⟨_, rfl⟩
  obtain ⟨B2, hB2⟩ : ∃ t, Hid (finB (dotW hs zs n) = t) := ⟨_, rfl⟩
  obtain ⟨B3, hB3⟩ : ∃ t, Hid (finB (sumA (alV f hs n) x n n) = t) := ⟨_, rfl⟩
  rw [hB1.out, hB2.out, hB3.out]
  rw [hB1.out] at HMV
  rw [hB2.out] at HDT
  obtain ⟨x0, x1, x2, x3⟩ := rcells_of t1
  obtain ⟨o0, o1, o2⟩ := ocells_of t2
  clear t1 t2 t3 t4 hX hL hH hx fh fz
  cases B1 with
  | false =>
    rw [if_neg (by decide)] at HMV
    rw [if_neg (by simp)]
    go_enter Try.func20, Try.ntmps20
    go_wp2_with fail
    refine (HT.out V HF0.out.1).mono ?_
    rintro e w1 ⟨⟨g, oT, rfl, hTf, hTv⟩, hb⟩
    unfold MV
    have HF1 : Hid (FrO w w1 p q (RBox xa n kx n n sa m ka) (OBox 0 none 0 0 none 0 0)) := HF0.out.call hb
    have HGT : Hid (Gd w1 n n (some ⟨g, 0, none⟩) (n * n) (n * n) oT) := ⟨HN.out, HN.out, rfl, hTf, fin_turned HSQ.out hTv⟩
    have HTV := hid hTv
    clear hb hTf hTv
    obtain ⟨x0, x1, x2, x3⟩ := rcells_of HF1.out.2.1
    obtain ⟨o0, o1, o2⟩ := ocells_of HF1.out.2.2
    have fz := ofrz HF1.out.2.2
    have hal : Below w1.heap.size w1 (w1.alloc (MBox n n (some ⟨g, 0, none⟩) (n * n) (n * n))) := (Below.refl _ _).alloc (Nat.le_refl _) _
    have HF2 : Hid (FrO w (w1.alloc (MBox n n (some ⟨g, 0, none⟩) (n * n) (n * n))) p q (RBox xa n kx n n sa m ka) (OBox 0 none 0 0 none 0 0)) := HF1.out.call hal
    have HG2 := hid (HGT.out.below hal)
    have HMB := hid (nblkM w1 (MBox n n (some ⟨g, 0, none⟩) (n * n) (n * n)))
    obtain ⟨V2, hV2⟩ : ∃ V, Hid (w1.alloc (MBox n n (some ⟨g, 0, none⟩) (n * n) (n * n)) = V) := ⟨_, rfl⟩
    rw [hV2.out] at HF2 HG2 HMB
    have hV2' := hV2.out
    unfold MBox at hV2'
    obtain ⟨mb, hmb⟩ : ∃ t, Hid (w1.heap.size = t) := ⟨_, rfl⟩
    rw [hmb.out] at HMB
    have hmb' := hmb.out
    obtain ⟨y0, y1, y2⟩ := mcells_of HMB.out
    clear hal
    have hmn : m = n * n := HM.out
    have HMW := HMV.out V2 (some ⟨g, 0, none⟩) (n * n) oT HF2.out.1
    rw [hmn] at HMW
    have HMW2 := hid (HMW HG2.out HTV.out)
    clear HMW hmn
    go_wp2_with fail
    refine HMW2.out.mono ?_
    rintro e w3 ⟨⟨s, k, l, rfl, hls⟩, hb⟩
    have HF3 : Hid (FrO w w3 p q (RBox xa n kx n n sa m ka) (OBox 0 none 0 0 none 0 0)) := HF2.out.call hb
    clear hb
    obtain ⟨x0, x1, x2, x3⟩ := rcells_of HF3.out.2.1
    obtain ⟨o0, o1, o2⟩ := ocells_of HF3.out.2.2
    have fz := ofrz HF3.out.2.2
    clear hls
    go_wp2_with fail
    refine bodyPost_ret (v := .tuple #[.agg #[.float .f64 0, .slice none 0 0, .slice none 0 0], .int .i64 5]) (by simp [results, Try.results20, go_sem, o0, o1, o2]) rfl ⟨⟨0, none, 0, 0, none, 0, 0, rfl, Or.inr ⟨by decide, rfl, rfl, rfl, rfl, rfl, rfl, rfl⟩⟩, ?_⟩
    first | exact HF3.out.1 | exact oset_below HF3.out.1 HPQ.out.2.2 _ _ _ | (rw [← hp.out]; exact oset_below HF3.out.1 HPQ.out.2.2 _ _ _)
  | true =>
    rw [if_pos rfl] at HMV
    cases B2 with
    | false =>
      rw [if_neg (by decide), if_neg (by decide)] at HDT
      rw [if_neg (by simp)]
      go_enter Try.func20, Try.ntmps20
      go_wp2_with fail
      refine (HT.out V HF0.out.1).mono ?_
      rintro e w1 ⟨⟨g, oT, rfl, hTf, hTv⟩, hb⟩
      unfold MV
      have HF1 : Hid (FrO w w1 p q (RBox xa n kx n n sa m ka) (OBox 0 none 0 0 none 0 0)) := HF0.out.call hb
      have HGT : Hid (Gd w1 n n (some ⟨g, 0, none⟩) (n * n) (n * n) oT) := ⟨HN.out, HN.out, rfl, hTf, fin_turned HSQ.out hTv⟩
      have HTV := hid hTv
      clear hb hTf hTv
      obtain ⟨x0, x1, x2, x3⟩ := rcells_of HF1.out.2.1
      obtain ⟨o0, o1, o2⟩ := ocells_of HF1.out.2.2
      have fz := ofrz HF1.out.2.2
      have hal : Below w1.heap.size w1 (w1.alloc (MBox n n (some ⟨g, 0, none⟩) (n * n) (n * n))) := (Below.refl _ _).alloc (Nat.le_refl _) _
      have HF2 : Hid (FrO w (w1.alloc (MBox n n (some ⟨g, 0, none⟩) (n * n) (n * n))) p q (RBox xa n kx n n sa m ka) (OBox 0 none 0 0 none 0 0)) := HF1.out.call hal
      have HG2 := hid (HGT.out.below hal)
      have HMB := hid (nblkM w1 (MBox n n (some ⟨g, 0, none⟩) (n * n) (n * n)))
      obtain ⟨V2, hV2⟩ : ∃ V, Hid (w1.alloc (MBox n n (some ⟨g, 0, none⟩) (n * n) (n * n)) = V) := ⟨_, rfl⟩
      rw [hV2.out] at HF2 HG2 HMB
      have hV2' := hV2.out
      unfold MBox at hV2'
      obtain ⟨mb, hmb⟩ : ∃ t, Hid (w1.heap.size = t) := ⟨_, rfl⟩
      rw [hmb.out] at HMB
      have hmb' := hmb.out
      obtain ⟨y0, y1, y2⟩ := mcells_of HMB.out
      clear hal
      have hmn : m = n * n := HM.out
      have HMW := HMV.out V2 (some ⟨g, 0, none⟩) (n * n) oT HF2.out.1
      rw [hmn] at HMW
      have HMW2 := hid (HMW HG2.out HTV.out)
      clear HMW hmn
      go_wp2_with fail
      refine HMW2.out.mono ?_
      rintro e w3 ⟨⟨s, k, l, rfl, hls⟩, hb⟩
      have HF3 : Hid (FrO w w3 p q (RBox xa n kx n n sa m ka) (OBox 0 none 0 0 none 0 0)) := HF2.out.call hb
      clear hb
      obtain ⟨x0, x1, x2, x3⟩ := rcells_of HF3.out.2.1
      obtain ⟨o0, o1, o2⟩ := ocells_of HF3.out.2.2
      have fz := ofrz HF3.out.2.2
      clear hls
      go_wp2_with fail
      refine (HDT.out w3 HF3.out.1).mono ?_
      rintro e w4 ⟨rfl, hb⟩
      have HF4 : Hid (FrO w w4 p q (RBox xa n kx n n sa m ka) (OBox 0 none 0 0 none 0 0)) := HF3.out.call hb
      clear hb
      obtain ⟨x0, x1, x2, x3⟩ := rcells_of HF4.out.2.1
      obtain ⟨o0, o1, o2⟩ := ocells_of HF4.out.2.2
      have fz := ofrz HF4.out.2.2
      go_wp2_with fail
      refine bodyPost_ret (v := .tuple #[.agg #[.float .f64 0, .slice none 0 0, .slice none 0 0], .int .i64 5]) (by simp [results, Try.results20, go_sem, o0, o1, o2]) rfl ⟨⟨0, none, 0, 0, none, 0, 0, rfl, Or.inr ⟨by decide, rfl, rfl, rfl, rfl, rfl, rfl, rfl⟩⟩, ?_⟩
      first | exact HF4.out.1 | exact oset_below HF4.out.1 HPQ.out.2.2 _ _ _ | (rw [← hp.out]; exact oset_below HF4.out.1 HPQ.out.2.2 _ _ _)
    | true =>
      rw [if_pos rfl, if_pos rfl] at HDT
      go_enter Try.func20, Try.ntmps20
      go_wp2_with fail
      refine (HT.out V HF0.out.1).mono ?_
      rintro e w1 ⟨⟨g, oT, rfl, hTf, hTv⟩, hb⟩
      unfold MV
      have HF1 : Hid (FrO w w1 p q (RBox xa n kx n n sa m ka) (OBox 0 none 0 0 none 0 0)) := HF0.out.call hb
      have HGT : Hid (Gd w1 n n (some ⟨g, 0, none⟩) (n * n) (n * n) oT) := ⟨HN.out, HN.out, rfl, hTf, fin_turned HSQ.out hTv⟩
      have HTV := hid hTv
      clear hb hTf hTv
      obtain ⟨x0, x1, x2, x3⟩ := rcells_of HF1.out.2.1
      obtain ⟨o0, o1, o2⟩ := ocells_of HF1.out.2.2
      have fz := ofrz HF1.out.2.2
      have hal : Below w1.heap.size w1 (w1.alloc (MBox n n (some ⟨g, 0, none⟩) (n * n) (n * n))) := (Below.refl _ _).alloc (Nat.le_refl _) _
      have HF2 : Hid (FrO w (w1.alloc (MBox n n (some ⟨g, 0, none⟩) (n * n) (n * n))) p q (RBox xa n kx n n sa m ka) (OBox 0 none 0 0 none 0 0)) := HF1.out.call hal
      have HG2 := hid (HGT.out.below hal)
      have HMB := hid (nblkM w1 (MBox n n (some ⟨g, 0, none⟩) (n * n) (n * n)))
      obtain ⟨V2, hV2⟩ : ∃ V, Hid (w1.alloc (MBox n n (some ⟨g, 0, none⟩) (n * n) (n * n)) = V) := ⟨_, rfl⟩
      rw [hV2.out] at HF2 HG2 HMB
      have hV2' := hV2.out
      unfold MBox at hV2'
      obtain ⟨mb, hmb⟩ : ∃ t, Hid (w1.heap.size = t) := ⟨_, rfl⟩
      rw [hmb.out] at HMB
      have hmb' := hmb.out
      obtain ⟨y0, y1, y2⟩ := mcells_of HMB.out
      clear hal
      have hmn : m = n * n := HM.out
      have HMW := HMV.out V2 (some ⟨g, 0, none⟩) (n * n) oT HF2.out.1
      rw [hmn] at HMW
      have HMW2 := hid (HMW HG2.out HTV.out)
      clear HMW hmn
      go_wp2_with fail
      refine HMW2.out.mono ?_
      rintro e w3 ⟨⟨s, k, l, rfl, hls⟩, hb⟩
      have HF3 : Hid (FrO w w3 p q (RBox xa n kx n n sa m ka) (OBox 0 none 0 0 none 0 0)) := HF2.out.call hb
      clear hb
      obtain ⟨x0, x1, x2, x3⟩ := rcells_of HF3.out.2.1
      obtain ⟨o0, o1, o2⟩ := ocells_of HF3.out.2.2
      have fz := ofrz HF3.out.2.2
      obtain ⟨_, vb, av, hs1, hk1, hl1, hvb, hf, hv⟩ | h := hls
      rotate_left
      · exact absurd rfl h.1
      rw [hs1, hk1, hl1]
      clear hs1 hk1 hl1
      have HVF := hid hf
      have HVV := hid hv
      have HVB : Hid (V2.heap.size ≤ vb) := hvb
      clear hf hv hvb
      go_wp2_with fail
      refine (HDT.out w3 HF3.out.1).mono ?_
      rintro e w4 ⟨rfl, hb⟩
      have HF4 : Hid (FrO w w4 p q (RBox xa n kx n n sa m ka) (OBox 0 none 0 0 none 0 0)) := HF3.out.call hb
      have HV4 := hid (HVF.out.below hb)
      clear hb
      obtain ⟨x0, x1, x2, x3⟩ := rcells_of HF4.out.2.1
      obtain ⟨o0, o1, o2⟩ := ocells_of HF4.out.2.2
      have fz := ofrz HF4.out.2.2
      obtain ⟨N1, hN1⟩ : ∃ t, Hid (n + 1 = t) := ⟨_, rfl⟩
      have hn12 := HN.out
      have wN : IntKind.i64.wrap ((n : Int) + 1) = (N1 : Int) := by rw [show (N1 : Int) = (n : Int) + 1 by have := hN1.out; omega]; exact IntWalk.i64_in _ (by omega)
      have hmk := run_make_row' (P := Try.prog) 32 28 (.float .f64 0) 8 Try.underlying32 info_fM rfl .i64 .i64 N1 (by have := hN1.out; omega) (by have := hN1.out; omega)
      have HR0 := hid (World.rowIs_made w4 (.float .f64 0) N1 28)
      obtain ⟨g2, hg2⟩ : ∃ t, Hid (w4.heap.size = t) := ⟨_, rfl⟩
      rw [hg2.out] at HR0
      have hg2' := hg2.out
      have hnN : (n : Int) < (N1 : Int) := by have := hN1.out; omega
      have hn0 : (0 : Int) ≤ (n : Int) := by omega
      have c1 := HR0.out.cell (i := n) (by have := hN1.out; omega)
      have f1 := HR0.out.frozen n
      have HR1 := hid (HR0.out.set n (.float .f64 x))
      have HLB : Hid (Below w4.heap.size w4 ((w4.alloc (.cells (madeCells #[.float .f64 0] N1) 28)).setCell ⟨g2, n, none⟩ (.float .f64 x))) := by
        have := ((Below.refl w4.heap.size w4).alloc (Nat.le_refl _) (.cells (madeCells #[.float .f64 0] N1) 28)).setCell (p := ⟨g2, n, none⟩) (by rw [← hg2.out]; exact Nat.le_refl _) (.float .f64 x)
        exact this
      have hE : (w4.alloc (.cells (madeCells #[.float .f64 0] N1) 28)).setCell ⟨g2, n, none⟩ (.float .f64 x) = w4.alloc (.cells ((madeCells #[.float .f64 0] N1).setIfInBounds n (.float .f64 x)) 28) := by
        rw [← hg2.out]
        simp [go_sem]
      have HR1 := hid HR1.out
      rw [hE] at HR1 HLB
      clear hE
      go_wp2_with fail
      go_loopw [57] (fun iv wr => ∃ (d : Nat) (o : Nat → Nat), d ≤ n ∧ iv = .int .i64 d ∧ Hid (wr.rowIs g2 28 N1 (fun j => .float .f64 (o j))) ∧ Hid (∀ j, n - d ≤ j → j ≤ n → canonOf (o j) = sumA (alV f hs n) x n (n - j) ∧ o j < 18446744073709551616) ∧ Hid (Below w4.heap.size w4 wr)) (fun iv _ => n - (intOf iv).toNat)
      case atStart =>
        refine ⟨0, fun j => if j = n then x else 0, Nat.zero_le _, rfl, HR1.out.congr (fun j _ => ?_), fun j h1 h2 => ?_, HLB⟩
        · by_cases h : j = n <;> simp [h]
        · obtain rfl : j = n := by omega
          dsimp only
          rw [if_pos rfl, Nat.sub_self]
          exact ⟨rfl, HX.out⟩
      case round =>
        obtain ⟨d, o, hd, rfl, HR, HP, HW⟩ := hrel
        by_cases hlt : d < n
        · obtain ⟨j, hj⟩ : ∃ j, n = d + 1 + j := ⟨n - 1 - d, by omega⟩
          have HJ := hid hj
          have ej : (n : Int) - 1 - (d : Int) = (j : Int) := by omega
          have w1 : IntKind.i64.wrap ((n : Int) - 1) = (n : Int) - 1 := IntWalk.i64_in _ (by omega)
          have w2 : IntKind.i64.wrap (j : Int) = (j : Int) := IntWalk.i64_in _ (by omega)
          have hdn : (d : Int) < (n : Int) := by omega
          have hd0 : (0 : Int) ≤ (d : Int) := by omega
          have wd : IntKind.i64.wrap ((d : Int) + 1) = (d : Int) + 1 := IntWalk.i64_in _ (by omega)
          obtain ⟨j1, hj1⟩ : ∃ t, Hid (j + 1 = t) := ⟨_, rfl⟩
          have wj : IntKind.i64.wrap ((j : Int) + 1) = (j1 : Int) := by rw [show (j1 : Int) = (j : Int) + 1 by have := hj1.out; omega]; exact IntWalk.i64_in _ (by omega)
          have b1 : (j1 : Int) < (N1 : Int) := by have := hj1.out; have := hN1.out; omega
          have b2 : (0 : Int) ≤ (j1 : Int) := by omega
          have b3 : (j : Int) < (N1 : Int) := by have := hN1.out; omega
          have b4 : (0 : Int) ≤ (j : Int) := by omega
          have b5 : (j : Int) < (n : Int) := by omega
          have k1 : j1 < N1 := by omega
          have k2 : j < N1 := by omega
          have hyy := HP.out j1 (by have := hj1.out; omega) (by have := hj1.out; omega)
          rw [show n - j1 = d by have := hj1.out; omega] at hyy
          obtain ⟨hvl, hvc⟩ : av j < 18446744073709551616 ∧ w4.cell? ⟨vb, j, none⟩ = some (.float .f64 (av j)) := by
            rcases HV4.out with ⟨h, _⟩ | ⟨b, off, e, _, _, _, hc⟩
            · cases h
            · cases e
              have := hc j (by omega)
              rw [Nat.zero_add] at this
              exact ⟨this.2, this.1⟩
          have hvb4 : vb < w4.heap.size := by
            rcases HV4.out with ⟨h, _⟩ | ⟨b, off, e, hb, _⟩
            · cases h
            · cases e; exact hb
          have hcv := HVV.out j (by omega)
          rw [show j = n - 1 - d by omega] at hcv
          have HD : Hid (∀ W W', arF .add (o j1) (arF .mul (av j) (av j) W) W' < 18446744073709551616 ∧ canonOf (arF .add (o j1) (arF .mul (av j) (av j) W) W') = sumA (alV f hs n) x n (d + 1)) := fun W W' => ⟨arF_lt ok_a _ _ _, by rw [canon_ar ok_a _ _ _ hyy.2 (arF_lt ok_m _ _ _), canon_ar ok_m _ _ _ hvl hvl, hyy.1, show j = n - 1 - d by omega, hcv]; rfl⟩
          have g1 := HR.out.cell k1
          obtain ⟨y, hy⟩ : ∃ t, Hid (o j1 = t) := ⟨_, rfl⟩
          obtain ⟨v, hv⟩ : ∃ t, Hid (av j = t) := ⟨_, rfl⟩
          rw [hy.out] at g1
          rw [hv.out] at hvc
          rw [hy.out, hv.out] at HD
          have HVC := hid hvc
          have HVB4 := hid hvb4
          have HKS : Hid (∀ W, Hid (Below w4.heap.size w4 W ∧ W.cell? ⟨g2, j1, none⟩ = some (.float .f64 y)) → (W.cell? ⟨g2, j1, none⟩ = some (.float .f64 y) ∧ W.cell? ⟨vb, j, none⟩ = some (.float .f64 v)) ∧ Hid (Below w4.heap.size w4 W ∧ W.cell? ⟨g2, j1, none⟩ = some (.float .f64 y))) := fun W hW => ⟨⟨hW.out.2, (hW.out.1.cell (p := ⟨vb, j, none⟩) HVB4.out).trans HVC.out⟩, hW⟩
          have HQ0 : Hid (Below w4.heap.size w4 wr.drew ∧ wr.drew.cell? ⟨g2, j1, none⟩ = some (.float .f64 y)) := ⟨HW.out.drew, g1⟩
          have HQ1 : Hid (Below w4.heap.size w4 (arG .mul v v wr.drew) ∧ (arG .mul v v wr.drew).cell? ⟨g2, j1, none⟩ = some (.float .f64 y)) := ⟨bl_ar HQ0.out.1 _ _ _, (World.cell?_of_block (by rw [arG_heap])).trans HQ0.out.2⟩
          have HQ2 : Hid (Below w4.heap.size w4 (arG .add y (arF .mul v v wr.drew) (arG .mul v v wr.drew)) ∧ (arG .add y (arF .mul v v wr.drew) (arG .mul v v wr.drew)).cell? ⟨g2, j1, none⟩ = some (.float .f64 y)) := ⟨bl_ar HQ1.out.1 _ _ _, (World.cell?_of_block (by rw [arG_heap])).trans HQ1.out.2⟩
          have HRA : Hid ((arG .add y (arF .mul v v wr.drew) (arG .mul v v wr.drew)).rowIs g2 28 N1 (fun t => .float .f64 (o t))) := HR.out.of_block (by rw [arG_heap, arG_heap]; rfl)
          have c1 := HRA.out.cell k2
          have f1 := HRA.out.frozen j
          have HRB := hid (HRA.out.set j (.float .f64 (arF .add y (arF .mul v v wr.drew) (arG .mul v v wr.drew))))
          have HQ3 : Hid (Below w4.heap.size w4 ((arG .add y (arF .mul v v wr.drew) (arG .mul v v wr.drew)).setCell ⟨g2, j, none⟩ (.float .f64 (arF .add y (arF .mul v v wr.drew) (arG .mul v v wr.drew)))) ∧ ((arG .add y (arF .mul v v wr.drew) (arG .mul v v wr.drew)).setCell ⟨g2, j, none⟩ (.float .f64 (arF .add y (arF .mul v v wr.drew) (arG .mul v v wr.drew)))).cell? ⟨g2, j1, none⟩ = some (.float .f64 y)) := ⟨HQ2.out.1.setCell (p := ⟨g2, j, none⟩) (by rw [← hg2.out]; exact Nat.le_refl _) _, by have := HRB.out.cell k1; rw [if_neg (by have := hj1.out; omega), hy.out] at this; exact this⟩
          clear hj hyy hvl hvb4 hcv hvc g1 hmk
          go_wp2_with fail
          refine wp_region_held_drew (S := fun W => (W.cell? ⟨g2, j1, none⟩ = some (.float .f64 y) ∧ W.cell? ⟨vb, j, none⟩ = some (.float .f64 v)) ∧ Hid (Below w4.heap.size w4 W ∧ W.cell? ⟨g2, j1, none⟩ = some (.float .f64 y))) (by kernel_rfl) (HKS.out _ HQ0) (fun hHeld => ?_)
          refine take_at 0 64 (.slice (some ⟨g2, 0, none⟩) N1 N1) rfl rfl (by kernel_rfl) (by kernel_rfl) (by kernel_rfl) (fun _ _ _ h => h) (Or.inl ⟨by rfl, fun w hSw => by (try dsimp only at hSw); go_simp⟩) (by assumption) ?_
          simp only [Act.put, List.setIfInBounds_toArray, List.set_cons_zero, List.set_cons_succ]
          refine take_at 1 65 (.int .i64 j) rfl rfl (by kernel_rfl) (by kernel_rfl) (by kernel_rfl) (fun _ _ _ h => h) (Or.inl ⟨by rfl, fun w hSw => by (try dsimp only at hSw); go_simp⟩) (by assumption) ?_
          simp only [Act.put, List.setIfInBounds_toArray, List.set_cons_zero, List.set_cons_succ]
          refine take_at 2 66 (.slice (some ⟨g2, 0, none⟩) N1 N1) rfl rfl (by kernel_rfl) (by kernel_rfl) (by kernel_rfl) (fun _ _ _ h => h) (Or.inl ⟨by rfl, fun w hSw => by (try dsimp only at hSw); go_simp⟩) (by assumption) ?_
          simp only [Act.put, List.setIfInBounds_toArray, List.set_cons_zero, List.set_cons_succ]
          refine take_at 3 67 (.int .i64 j) rfl rfl (by kernel_rfl) (by kernel_rfl) (by kernel_rfl) (fun _ _ _ h => h) (Or.inl ⟨by rfl, fun w hSw => by (try dsimp only at hSw); go_simp⟩) (by assumption) ?_
          simp only [Act.put, List.setIfInBounds_toArray, List.set_cons_zero, List.set_cons_succ]
          refine take_at 4 68 (.int .i64 j1) rfl rfl (by kernel_rfl) (by kernel_rfl) (by kernel_rfl) (fun _ _ _ h => h) (Or.inl ⟨by rfl, fun w hSw => by (try dsimp only at hSw); go_simp⟩) (by assumption) ?_
          simp only [Act.put, List.setIfInBounds_toArray, List.set_cons_zero, List.set_cons_succ]
          refine take_at 5 69 (.pointer (some ⟨g2, j1, none⟩)) rfl rfl (by kernel_rfl) (by kernel_rfl) (by kernel_rfl) (fun _ _ _ h => h) (Or.inl ⟨by rfl, fun w hSw => by (try dsimp only at hSw); go_simp⟩) (by assumption) ?_
          simp only [Act.put, List.setIfInBounds_toArray, List.set_cons_zero, List.set_cons_succ]
          refine take_at 6 70 (.float .f64 y) rfl rfl (by kernel_rfl) (by kernel_rfl) (by kernel_rfl) (fun _ _ _ h => h) (Or.inl ⟨by rfl, fun w hSw => by (try dsimp only at hSw); go_simp⟩) (by assumption) ?_
          simp only [Act.put, List.setIfInBounds_toArray, List.set_cons_zero, List.set_cons_succ]
          refine take_at 7 71 (.slice (some ⟨vb, 0, none⟩) n n) rfl rfl (by kernel_rfl) (by kernel_rfl) (by kernel_rfl) (fun _ _ _ h => h) (Or.inl ⟨by rfl, fun w hSw => by (try dsimp only at hSw); go_simp⟩) (by assumption) ?_
          simp only [Act.put, List.setIfInBounds_toArray, List.set_cons_zero, List.set_cons_succ]
          refine take_at 8 72 (.int .i64 j) rfl rfl (by kernel_rfl) (by kernel_rfl) (by kernel_rfl) (fun _ _ _ h => h) (Or.inl ⟨by rfl, fun w hSw => by (try dsimp only at hSw); go_simp⟩) (by assumption) ?_
          simp only [Act.put, List.setIfInBounds_toArray, List.set_cons_zero, List.set_cons_succ]
          refine take_at 9 73 (.pointer (some ⟨vb, j, none⟩)) rfl rfl (by kernel_rfl) (by kernel_rfl) (by kernel_rfl) (fun _ _ _ h => h) (Or.inl ⟨by rfl, fun w hSw => by (try dsimp only at hSw); go_simp⟩) (by assumption) ?_
          simp only [Act.put, List.setIfInBounds_toArray, List.set_cons_zero, List.set_cons_succ]
          refine take_at 10 74 (.float .f64 v) rfl rfl (by kernel_rfl) (by kernel_rfl) (by kernel_rfl) (fun _ _ _ h => h) (Or.inl ⟨by rfl, fun w hSw => by (try dsimp only at hSw); go_simp⟩) (by assumption) ?_
          simp only [Act.put, List.setIfInBounds_toArray, List.set_cons_zero, List.set_cons_succ]
          refine take_at 11 75 (.slice (some ⟨vb, 0, none⟩) n n) rfl rfl (by kernel_rfl) (by kernel_rfl) (by kernel_rfl) (fun _ _ _ h => h) (Or.inl ⟨by rfl, fun w hSw => by (try dsimp only at hSw); go_simp⟩) (by assumption) ?_
          simp only [Act.put, List.setIfInBounds_toArray, List.set_cons_zero, List.set_cons_succ]
          refine take_at 12 76 (.int .i64 j) rfl rfl (by kernel_rfl) (by kernel_rfl) (by kernel_rfl) (fun _ _ _ h => h) (Or.inl ⟨by rfl, fun w hSw => by (try dsimp only at hSw); go_simp⟩) (by assumption) ?_
          simp only [Act.put, List.setIfInBounds_toArray, List.set_cons_zero, List.set_cons_succ]
          refine take_at 13 77 (.pointer (some ⟨vb, j, none⟩)) rfl rfl (by kernel_rfl) (by kernel_rfl) (by kernel_rfl) (fun _ _ _ h => h) (Or.inl ⟨by rfl, fun w hSw => by (try dsimp only at hSw); go_simp⟩) (by assumption) ?_
          simp only [Act.put, List.setIfInBounds_toArray, List.set_cons_zero, List.set_cons_succ]
          refine take_at 14 78 (.float .f64 v) rfl rfl (by kernel_rfl) (by kernel_rfl) (by kernel_rfl) (fun _ _ _ h => h) (Or.inl ⟨by rfl, fun w hSw => by (try dsimp only at hSw); go_simp⟩) (by assumption) ?_
          simp only [Act.put, List.setIfInBounds_toArray, List.set_cons_zero, List.set_cons_succ]
          refine wpAnyH_ready (rs := [15]) (by kernel_rfl) (by simp) ?_
          refine AllReadyH.cons (o := _) rfl (fun K hK => ?_) AllReadyH.nil
          go_simp
          go_wp2_with fail
          refine hK.out _ _ (HKS.out _ HQ1) (fun hHeld1 => ?_)
          clear hK K
          try simp only [Act.put, List.setIfInBounds_toArray, List.set_cons_zero, List.set_cons_succ]
          refine wpAnyH_ready (rs := [16]) (by kernel_rfl) (by simp) ?_
          refine AllReadyH.cons (o := _) rfl (fun K hK => ?_) AllReadyH.nil
          go_simp
          go_wp2_with fail
          refine hK.out _ _ (HKS.out _ HQ2) (fun hHeld2 => ?_)
          clear hK K
          try simp only [Act.put, List.setIfInBounds_toArray, List.set_cons_zero, List.set_cons_succ]
          refine take_at 17 81 (.pointer (some ⟨g2, j, none⟩)) rfl rfl (by kernel_rfl) (by kernel_rfl) (by kernel_rfl) (fun _ _ _ h => h) (Or.inl ⟨by rfl, fun w hSw => by (try dsimp only at hSw); go_simp⟩) (by assumption) ?_
          simp only [Act.put, List.setIfInBounds_toArray, List.set_cons_zero, List.set_cons_succ]
          refine wpAnyH_ready (rs := [18]) (by kernel_rfl) (by simp) ?_
          refine AllReadyH.cons (o := _) rfl (fun K hK => ?_) AllReadyH.nil
          go_simp
          go_wp2_with fail
          refine hK.out _ _ (HKS.out _ HQ3) (fun hHeld3 => ?_)
          clear hK K
          try simp only [Act.put, List.setIfInBounds_toArray, List.set_cons_zero, List.set_cons_succ]
          refine wpAnyH_done (by kernel_rfl) ?_ _
          go_wp2_with fail
          refine ⟨⟨d + 1, fun t => if t = j then (arF .add y (arF .mul v v wr.drew) (arG .mul v v wr.drew)) else o t, by omega, by go_num, HRB.out.congr (fun t _ => ?_), fun t h1 h2 => ?_, HQ3.out.1⟩, ?_⟩
          · by_cases h : t = j <;> simp [h]
          · dsimp only
            by_cases h : t = j
            · rw [if_pos h, h, show n - j = d + 1 by have := HJ.out; omega]
              exact ⟨(HD.out _ _).2, (HD.out _ _).1⟩
            · rw [if_neg h]
              exact HP.out t (by have := HJ.out; omega) h2
          · simp [intOf]; omega
        · obtain rfl : d = n := by omega
          have HZ := HP.out 0 (by omega) (by omega)
          rw [Nat.sub_zero] at HZ
          have c1 := HR.out.cell (i := 0) (by have := hN1.out; omega)
          have HFIN : Hid (finM [o 0] = B3) := by
            show _ = _
            rw [fin_sgl, ← finB_canon, HZ.1]
            exact hB3.out
          have HYL := hid HZ.2
          obtain ⟨y, hy⟩ : ∃ t, Hid (o 0 = t) := ⟨_, rfl⟩
          rw [hy.out] at c1 HFIN HYL
          have bN : (0 : Int) < (N1 : Int) := by have := hN1.out; omega
          have HF5 : Hid (FrO w wr p q (RBox xa d kx d d sa m ka) (OBox 0 none 0 0 none 0 0)) := HF4.out.call HW.out
          have hal : Below wr.heap.size wr (wr.alloc (.cells #[.float .f64 y] 28)) := (Below.refl _ _).alloc (Nat.le_refl _) _
          have HF6 : Hid (FrO w (wr.alloc (.cells #[.float .f64 y] 28)) p q (RBox xa d kx d d sa m ka) (OBox 0 none 0 0 none 0 0)) := HF5.out.call hal
          have HO := hid (one_fl (w := wr.alloc (.cells #[.float .f64 y] 28)) (b := wr.heap.size) HYL.out (by have h := nblkM wr (.cells #[.float .f64 y] 28); unfold World.cell?; simp only []; rw [h]; rfl) (by simp))
          have HA := hid (areFin_any _ 1 1 [y] _ HO.out (by decide))
          rw [HFIN.out] at HA
          have HW6 := hid (HW.out.trans (hal.mono HW.out.size))
          have HR6 := hid (HR.out.of_block (hal.block _ HR.out.lt))
          obtain ⟨V6, hV6⟩ : ∃ V, Hid (wr.alloc (.cells #[.float .f64 y] 28) = V) := ⟨_, rfl⟩
          rw [hV6.out] at HF6 HA HW6 HR6
          have hV6' := hV6.out
          clear hal HZ hmk
          go_wp2_with fail
          refine HA.out.mono ?_
          rintro e w7 ⟨rfl, hb⟩
          have HF7 : Hid (FrO w w7 p q (RBox xa d kx d d sa m ka) (OBox 0 none 0 0 none 0 0)) := HF6.out.call hb
          have HW7 := hid (HW6.out.trans (hb.mono HW6.out.size))
          have HR7 := hid (HR6.out.of_block (hb.block _ HR6.out.lt))
          clear hb
          obtain ⟨x0, x1, x2, x3⟩ := rcells_of HF7.out.2.1
          obtain ⟨o0, o1, o2⟩ := ocells_of HF7.out.2.2
          have fz := ofrz HF7.out.2.2
          cases B3 with
          | false =>
            go_wp2_with fail
            refine bodyPost_ret (v := .tuple #[.agg #[.float .f64 0, .slice none 0 0, .slice none 0 0], .int .i64 5]) (by simp [results, Try.results20, go_sem, o0, o1, o2]) rfl ⟨⟨0, none, 0, 0, none, 0, 0, rfl, Or.inr ⟨by decide, rfl, rfl, rfl, rfl, rfl, rfl, rfl⟩⟩, ?_⟩
            first | exact HF7.out.1 | exact oset_below HF7.out.1 HPQ.out.2.2 _ _ _ | (rw [← hp.out]; exact oset_below HF7.out.1 HPQ.out.2.2 _ _ _)
          | true =>
            go_wp2_with fail
            have hq1 : q < V2.heap.size := (Array.getElem?_eq_some_iff.1 HF2.out.2.2).1
            have n1 : vb ≠ q := by have := HVB.out; omega
            have n2 : g2 ≠ q := by have h1 := (Array.getElem?_eq_some_iff.1 HF4.out.2.2).1; have := hg2.out; omega
            refine bodyPost_ret (v := .tuple #[.agg #[.float .f64 (dotW hs zs d), .slice (some ⟨vb, 0, none⟩) d d, .slice (some ⟨g2, 0, none⟩) N1 N1], .int .i64 0]) (by simp [results, Try.results20, go_sem, o0, o1, o2]) rfl ⟨⟨_, _, _, _, _, _, _, rfl, Or.inl ⟨rfl, rfl, rfl, hN1.out.symm, av, o, (HV4.out.below HW7.out).oset n1 _ _ _, HVV.out, ?_, fun j hj => (HP.out j (by omega) hj).1⟩⟩, (by rw [← hp.out]; exact oset_below HF7.out.1 HPQ.out.2.2 _ _ _)⟩
            rw [hN1.out]
            refine FnM.oset (Or.inr ⟨g2, 0, rfl, HR7.out.lt, Nat.le_refl _, by have := hN1.out; omega, fun j hj => ?_⟩) n2 _ _ _
            rw [Nat.zero_add]
            exact ⟨HR7.out.cell hj, (HP.out j (by omega) (by have := hN1.out; omega)).2⟩
end Go.Proofs.Ythakhmnlpmfdgaa
