
/- The law ModelGoes. -/
import Derived.Test.YtggiklghcnojiaaP48
namespace Go.Proofs.Ytggiklghcnojiaa
open Go.RowKit Go.IntWalk

/-- What lies in the law's variables, and what stays. -/
def FrG (w W : World) (L : List (Nat × Obj)) (G : List (World → Prop)) : Prop := Below w.heap.size w W ∧ (∀ e ∈ L, W.heap[e.1]? = some e.2) ∧ ∀ g ∈ G, (∀ A B : World, Below A.heap.size A B → g A → g B) ∧ g W
theorem FrG.call {w W W' : World} {L : List (Nat × Obj)} {G : List (World → Prop)} (h : FrG w W L G) (hb : Below W.heap.size W W') : FrG w W' L G := ⟨h.1.trans (hb.mono h.1.size), fun e he => blkM (h.2.1 e he) hb, fun g hg => ⟨(h.2.2 g hg).1, (h.2.2 g hg).1 _ _ hb (h.2.2 g hg).2⟩⟩
theorem FrG.drew {w W : World} {L : List (Nat × Obj)} {G : List (World → Prop)} (h : FrG w W L G) : FrG w W.drew L G := h.call (Below.refl _ _).drew
theorem FrG.alloc {w W : World} {L : List (Nat × Obj)} {G : List (World → Prop)} (h : FrG w W L G) (o : Obj) : FrG w (W.alloc o) ((W.heap.size, o) :: L) G := by
  have hc := h.call ((Below.refl _ _).alloc (Nat.le_refl _) o)
  exact ⟨hc.1, List.forall_mem_cons.2 ⟨nblkM _ _, hc.2.1⟩, hc.2.2⟩
theorem FrG.add {w W : World} {L : List (Nat × Obj)} {G : List (World → Prop)} (h : FrG w W L G) {g : World → Prop} (k : ∀ A B : World, Below A.heap.size A B → g A → g B) (hg : g W) : FrG w W L (g :: G) := ⟨h.1, h.2.1, List.forall_mem_cons.2 ⟨⟨k, hg⟩, h.2.2⟩⟩
theorem FrG.at {w W : World} {L : List (Nat × Obj)} {G : List (World → Prop)} (h : FrG w W L G) (i : Nat) {b : Nat} {o : Obj} (hi : L[i]? = some (b, o)) : W.heap[b]? = some o := h.2.1 _ (List.mem_of_getElem? hi)
theorem FrG.get {w W : World} {L : List (Nat × Obj)} {G : List (World → Prop)} (h : FrG w W L G) (i : Nat) {g : World → Prop} (hi : G[i]? = some g) : g W := (h.2.2 _ (List.mem_of_getElem? hi)).2
theorem fng_cell {W : World} {g Q k : Nat} {o : Nat → Nat} (h : FnM W (some ⟨g, 0, none⟩) Q Q o) (hk : k < Q) : W.cell? ⟨g, k, none⟩ = some (.float .f64 (o k)) := by
  rcases h with ⟨h0, _⟩ | ⟨b, off, h1, _, _, _, h5⟩
  · cases h0
  · cases h1
    have := (h5 _ hk).1
    rw [Nat.zero_add] at this
    exact this
theorem ord_one : (FloatKind.f64.format.order 4607182418800017408 4607182418800017408 != some .eq) = false := by decide +kernel
theorem ord_nul : (FloatKind.f64.format.order 0 0 != some .eq) = false := by decide +kernel
set_option maxRecDepth 20000 in
set_option maxHeartbeats 16000000 in
theorem goes_walk (sa : Option Addr) (n cap : Nat) (K A : Nat → Int) (N F : Nat → Nat) (si ti : Int) (w : World) (h : PtU w sa n K A N F) (hn : n ≤ 4398046511104) (_hs : -9223372036854775808 ≤ si ∧ si ≤ 9223372036854775807) (_ht : -9223372036854775808 ≤ ti ∧ ti ≤ 9223372036854775807) : Calls Try.prog 3 #[.slice sa n cap, .int .i64 si, .int .i64 ti] w fun r w' => r = .returned (.bool true) ∧ Below w.heap.size w w' := by
  have HM := hid (fun W (hW : Below w.heap.size w W) => motion_any sa n cap K A N F W (h.below hW) hn)
  have HAW := hid awake14_any
  have HDM := hid (fun ta tc W (hp : PtF W ta n K A N F) => Dim_any ta n tc K A N F W hp hn)
  have HCK := hid (fun ta tc W (hp : PtF W ta n K A N F) => Check_mo ta n tc K A N F W hp hn)
  clear _hs _ht
  by_cases hE0 : dmE n K A N F = 0
  · skip
    obtain ⟨n0, y1, y2, y3, y4, y5⟩ := dm_zero hE0
    obtain ⟨y6, y7⟩ : 1 ≤ dmV n K A N F ∧ dmV n K A N F ≤ 12 := by rw [y3]; exact ⟨y5, y2⟩
    obtain ⟨D, hD⟩ := Int.eq_ofNat_of_zero_le (show 0 ≤ dmV n K A N F by omega)
    have hD12 : D ≤ 12 := by omega
    have hD1 : 1 ≤ D := by omega
    obtain ⟨Q, hQ⟩ : ∃ q, D * D = q := ⟨_, rfl⟩
    have hQ144 : Q ≤ 144 := by have : D * D ≤ 12 * 12 := Nat.mul_le_mul hD12 hD12; omega
    have HF0 := hid (fun ta tc W (hp : PtF W ta n K A N F) => F0_go ta n tc D Q K A N F W hp hn hE0 hD hQ)
    have HQ0 := hid (fun ta tc W (hp : PtF W ta n K A N F) => Q0_go ta n tc D Q K A N F W hp hn hE0 hD hQ)
    have HG0 := hid (fun ta tc W (hp : PtF W ta n K A N F) => G0_go ta n tc D Q K A N F W hp hn hE0 hD hQ)
    have HFS := hid (fun ta tc W (hp : PtF W ta n K A N F) (s : Nat) (tk : Int) (hs4 : s < 1024) (hs : tk = (s : Int) * 1000000) (h4 : ∀ i, i < n → K i ≠ 4) => Fs_go ta n tc D Q K A N F s tk hs4 hs h4 W hp hn hE0 hD hQ)
    have HGD := hid (fun g W => good_yes D Q g W hD12 hQ)
    have HAT := hid (fun g i j o W hf hi hj => at14_any D Q g i j o W hf hD12 hQ hi hj)
    have HMV := hid (fun s t => moved hE0 s t)
    have HLE := hid (fun s (hs : s < 1024) r c => (mt_all (p := fun x => x ≤ 1048576) (B := fun q => blH (K q) s) (K := K) (A := A) (L := axP A n) (Nat.zero_le _) (fun e _ x hx => blH_le _ s hs x hx) r c))
    rw [hE0, hD] at HDM
    rw [hD, Int.toNat_natCast] at HMV
    obtain ⟨pb, po, rfl, hbl, hcl⟩ := h.2 n0
    have HKC : Hid (∀ W, Below w.heap.size w W → ∀ i, i < n → W.cell? ⟨pb, po + i * 4, none⟩ = some (.int .i64 (K i))) := fun W hW i hi => (hW.cell (p := ⟨pb, po + i * 4, none⟩) hbl).trans (hcl i hi).1
    have HNN := hid hn
    have HQQ := hid hQ
    have HPL : Hid (∀ i j, i < D → j < D → i * D + j < Q) := fun i j hi hj => by rw [← hQ]; exact place_lt hi hj
    obtain ⟨qs, asn, sn, ms1, ms2, ms3, ms4, ms5⟩ := mod_in si
    obtain ⟨qt, at', tn, mt1, mt2, mt3, mt4, mt5⟩ := mod_in ti
    have HS := hid (And.intro ms1 (And.intro ms2 (And.intro ms3 (And.intro ms4 ms5))))
    have HT := hid (And.intro mt1 (And.intro mt2 (And.intro mt3 (And.intro mt4 mt5))))
    have eQ : (D : Int) * (D : Int) = (Q : Int) := by rw [← hQ]; simp
    have jQ := wrapM Q (by omega)
    clear h hn hE0 hD hQ y1 y2 y3 y4 y5 y6 y7 n0 hcl ms1 ms2 ms3 ms4 ms5 mt1 mt2 mt3 mt4 mt5
    go_enter Try.func3, Try.ntmps3
    have HF : Hid (FrG w w [] []) := ⟨Below.refl _ _, fun _ he => absurd he List.not_mem_nil, fun _ he => absurd he List.not_mem_nil⟩
    go_wp2_with fail
    refine (HAW.out _).mono ?_
    rintro e a0 ⟨rfl, hb⟩
    have HF : Hid (FrG w a0 [] []) := HF.out.call hb
    clear hb
    go_wp2_with fail
    refine (HM.out _ HF.out.1).mono ?_
    rintro e a1 ⟨⟨ta, tc, rfl, hp⟩, hb⟩
    have HF : Hid (FrG w a1 [] []) := HF.out.call hb
    have HF : Hid (FrG w a1 [] [fun W => PtF W ta n K A N F]) := HF.out.add (fun _ _ hb h => h.below hb) hp
    clear hb
    have HF : Hid (FrG w (a1.alloc (MoBox ta n tc)) [(a1.heap.size, MoBox ta n tc)] [fun W => PtF W ta n K A N F]) := HF.out.alloc _
    obtain ⟨V1, hV1⟩ : ∃ V, Hid (a1.alloc (MoBox ta n tc) = V) := ⟨_, rfl⟩
    obtain ⟨ba, hba⟩ : ∃ t, Hid (a1.heap.size = t) := ⟨_, rfl⟩
    rw [hV1.out, hba.out] at HF
    have hV1' := hV1.out
    unfold MoBox at hV1'
    have hba' := hba.out
    have c0 := mocell_of (HF.out.at 0 rfl : V1.heap[ba]? = some (MoBox ta n tc))
    clear hp
    go_wp2_with fail
    refine (HDM.out ta tc _ (HF.out.get (g := fun W => PtF W ta n K A N F) 0 rfl)).mono ?_
    rintro e a2 ⟨rfl, hb⟩
    have HF : Hid (FrG w a2 [(ba, MoBox ta n tc)] [fun W => PtF W ta n K A N F]) := HF.out.call hb
    clear hb
    have c0 := mocell_of (HF.out.at 0 rfl : a2.heap[ba]? = some (MoBox ta n tc))
    go_wp2_with fail
    refine (HF0.out ta tc _ (HF.out.get (g := fun W => PtF W ta n K A N F) 0 rfl)).mono ?_
    rintro e a3 ⟨⟨g10, o10, rfl, hf, hv⟩, hb⟩
    have HF : Hid (FrG w a3 [(ba, MoBox ta n tc)] [fun W => PtF W ta n K A N F]) := HF.out.call hb
    have HF : Hid (FrG w a3 [(ba, MoBox ta n tc)] [fun W => FnM W (some ⟨g10, 0, none⟩) Q Q o10, fun W => PtF W ta n K A N F]) := HF.out.add (fun _ _ hb h => h.below hb) hf
    clear hb
    have Hv10 := hid hv
    clear hf hv
    have HF : Hid (FrG w (a3.alloc (MBox D D (some ⟨g10, 0, none⟩) Q Q)) [(a3.heap.size, MBox D D (some ⟨g10, 0, none⟩) Q Q), (ba, MoBox ta n tc)] [fun W => FnM W (some ⟨g10, 0, none⟩) Q Q o10, fun W => PtF W ta n K A N F]) := HF.out.alloc _
    obtain ⟨V2, hV2⟩ : ∃ V, Hid (a3.alloc (MBox D D (some ⟨g10, 0, none⟩) Q Q) = V) := ⟨_, rfl⟩
    obtain ⟨b10, hb10⟩ : ∃ t, Hid (a3.heap.size = t) := ⟨_, rfl⟩
    rw [hV2.out, hb10.out] at HF
    have hV2' := hV2.out
    unfold MBox at hV2'
    have hb10' := hb10.out
    have c0 := mocell_of (HF.out.at 1 rfl : V2.heap[ba]? = some (MoBox ta n tc))
    go_wp2_with fail
    refine (HQ0.out ta tc _ (HF.out.get (g := fun W => PtF W ta n K A N F) 1 rfl)).mono ?_
    rintro e a4 ⟨⟨g11, o11, rfl, hf, hv⟩, hb⟩
    have HF : Hid (FrG w a4 [(b10, MBox D D (some ⟨g10, 0, none⟩) Q Q), (ba, MoBox ta n tc)] [fun W => FnM W (some ⟨g10, 0, none⟩) Q Q o10, fun W => PtF W ta n K A N F]) := HF.out.call hb
    have HF : Hid (FrG w a4 [(b10, MBox D D (some ⟨g10, 0, none⟩) Q Q), (ba, MoBox ta n tc)] [fun W => FnM W (some ⟨g11, 0, none⟩) Q Q o11, fun W => FnM W (some ⟨g10, 0, none⟩) Q Q o10, fun W => PtF W ta n K A N F]) := HF.out.add (fun _ _ hb h => h.below hb) hf
    clear hb
    have Hv11 := hid hv
    clear hf hv
    have HF : Hid (FrG w (a4.alloc (MBox D D (some ⟨g11, 0, none⟩) Q Q)) [(a4.heap.size, MBox D D (some ⟨g11, 0, none⟩) Q Q), (b10, MBox D D (some ⟨g10, 0, none⟩) Q Q), (ba, MoBox ta n tc)] [fun W => FnM W (some ⟨g11, 0, none⟩) Q Q o11, fun W => FnM W (some ⟨g10, 0, none⟩) Q Q o10, fun W => PtF W ta n K A N F]) := HF.out.alloc _
    obtain ⟨V3, hV3⟩ : ∃ V, Hid (a4.alloc (MBox D D (some ⟨g11, 0, none⟩) Q Q) = V) := ⟨_, rfl⟩
    obtain ⟨b11, hb11⟩ : ∃ t, Hid (a4.heap.size = t) := ⟨_, rfl⟩
    rw [hV3.out, hb11.out] at HF
    have hV3' := hV3.out
    unfold MBox at hV3'
    have hb11' := hb11.out
    have c0 := mocell_of (HF.out.at 2 rfl : V3.heap[ba]? = some (MoBox ta n tc))
    go_wp2_with fail
    refine (HG0.out ta tc _ (HF.out.get (g := fun W => PtF W ta n K A N F) 2 rfl)).mono ?_
    rintro e a5 ⟨⟨g13, o13, rfl, hf, hv⟩, hb⟩
    have HF : Hid (FrG w a5 [(b11, MBox D D (some ⟨g11, 0, none⟩) Q Q), (b10, MBox D D (some ⟨g10, 0, none⟩) Q Q), (ba, MoBox ta n tc)] [fun W => FnM W (some ⟨g11, 0, none⟩) Q Q o11, fun W => FnM W (some ⟨g10, 0, none⟩) Q Q o10, fun W => PtF W ta n K A N F]) := HF.out.call hb
    have HF : Hid (FrG w a5 [(b11, MBox D D (some ⟨g11, 0, none⟩) Q Q), (b10, MBox D D (some ⟨g10, 0, none⟩) Q Q), (ba, MoBox ta n tc)] [fun W => FnM W (some ⟨g13, 0, none⟩) Q Q o13, fun W => FnM W (some ⟨g11, 0, none⟩) Q Q o11, fun W => FnM W (some ⟨g10, 0, none⟩) Q Q o10, fun W => PtF W ta n K A N F]) := HF.out.add (fun _ _ hb h => h.below hb) hf
    clear hb
    have Hv13 := hid hv
    clear hf hv
    have HF : Hid (FrG w (a5.alloc (MBox D D (some ⟨g13, 0, none⟩) Q Q)) [(a5.heap.size, MBox D D (some ⟨g13, 0, none⟩) Q Q), (b11, MBox D D (some ⟨g11, 0, none⟩) Q Q), (b10, MBox D D (some ⟨g10, 0, none⟩) Q Q), (ba, MoBox ta n tc)] [fun W => FnM W (some ⟨g13, 0, none⟩) Q Q o13, fun W => FnM W (some ⟨g11, 0, none⟩) Q Q o11, fun W => FnM W (some ⟨g10, 0, none⟩) Q Q o10, fun W => PtF W ta n K A N F]) := HF.out.alloc _
    obtain ⟨V4, hV4⟩ : ∃ V, Hid (a5.alloc (MBox D D (some ⟨g13, 0, none⟩) Q Q) = V) := ⟨_, rfl⟩
    obtain ⟨b13, hb13⟩ : ∃ t, Hid (a5.heap.size = t) := ⟨_, rfl⟩
    rw [hV4.out, hb13.out] at HF
    have hV4' := hV4.out
    unfold MBox at hV4'
    have hb13' := hb13.out
    have c0 := mocell_of (HF.out.at 3 rfl : V4.heap[ba]? = some (MoBox ta n tc))
    obtain ⟨x0, x1, x2⟩ := mcells_of (HF.out.at 2 rfl : V4.heap[b10]? = some (MBox D D (some ⟨g10, 0, none⟩) Q Q))
    go_wp2_with fail
    refine (HGD.out g10 _).mono ?_
    rintro e a6 ⟨rfl, hb⟩
    have HF : Hid (FrG w a6 [(b13, MBox D D (some ⟨g13, 0, none⟩) Q Q), (b11, MBox D D (some ⟨g11, 0, none⟩) Q Q), (b10, MBox D D (some ⟨g10, 0, none⟩) Q Q), (ba, MoBox ta n tc)] [fun W => FnM W (some ⟨g13, 0, none⟩) Q Q o13, fun W => FnM W (some ⟨g11, 0, none⟩) Q Q o11, fun W => FnM W (some ⟨g10, 0, none⟩) Q Q o10, fun W => PtF W ta n K A N F]) := HF.out.call hb
    clear hb
    clear x0 x1 x2 c0
    obtain ⟨x0, x1, x2⟩ := mcells_of (HF.out.at 1 rfl : a6.heap[b11]? = some (MBox D D (some ⟨g11, 0, none⟩) Q Q))
    go_wp2_with fail
    refine (HGD.out g11 _).mono ?_
    rintro e a7 ⟨rfl, hb⟩
    have HF : Hid (FrG w a7 [(b13, MBox D D (some ⟨g13, 0, none⟩) Q Q), (b11, MBox D D (some ⟨g11, 0, none⟩) Q Q), (b10, MBox D D (some ⟨g10, 0, none⟩) Q Q), (ba, MoBox ta n tc)] [fun W => FnM W (some ⟨g13, 0, none⟩) Q Q o13, fun W => FnM W (some ⟨g11, 0, none⟩) Q Q o11, fun W => FnM W (some ⟨g10, 0, none⟩) Q Q o10, fun W => PtF W ta n K A N F]) := HF.out.call hb
    clear hb
    clear x0 x1 x2
    obtain ⟨x0, x1, x2⟩ := mcells_of (HF.out.at 0 rfl : a7.heap[b13]? = some (MBox D D (some ⟨g13, 0, none⟩) Q Q))
    go_wp2_with fail
    refine (HGD.out g13 _).mono ?_
    rintro e a8 ⟨rfl, hb⟩
    have HF : Hid (FrG w a8 [(b13, MBox D D (some ⟨g13, 0, none⟩) Q Q), (b11, MBox D D (some ⟨g11, 0, none⟩) Q Q), (b10, MBox D D (some ⟨g10, 0, none⟩) Q Q), (ba, MoBox ta n tc)] [fun W => FnM W (some ⟨g13, 0, none⟩) Q Q o13, fun W => FnM W (some ⟨g11, 0, none⟩) Q Q o11, fun W => FnM W (some ⟨g10, 0, none⟩) Q Q o10, fun W => PtF W ta n K A N F]) := HF.out.call hb
    clear hb
    clear x0 x1 x2
    go_wp2_with fail
    go_loopw [15] (fun iv wr => ∃ k : Nat, k ≤ Q ∧ iv = .int .i64 k ∧ Hid (wr = a8)) (fun iv _ => Q - (intOf iv).toNat)
    case atStart => exact ⟨0, Nat.zero_le _, rfl, rfl⟩
    case round =>
      obtain ⟨k, hk, rfl, hw⟩ := hrel
      rw [hw.out]
      clear hw
      by_cases hkl : k < Q
      · have hkI : (k : Int) < (Q : Int) := by omega
        have hk0 : (0 : Int) ≤ (k : Int) := by omega
        obtain ⟨z0, z1, z2⟩ := mcells_of (HF.out.at 2 rfl : a8.heap[b10]? = some (MBox D D (some ⟨g10, 0, none⟩) Q Q))
        obtain ⟨y0, y1, y2⟩ := mcells_of (HF.out.at 1 rfl : a8.heap[b11]? = some (MBox D D (some ⟨g11, 0, none⟩) Q Q))
        obtain ⟨x0, x1, x2⟩ := mcells_of (HF.out.at 0 rfl : a8.heap[b13]? = some (MBox D D (some ⟨g13, 0, none⟩) Q Q))
        have cf := fng_cell (HF.out.get (g := fun W => FnM W (some ⟨g10, 0, none⟩) Q Q o10) 2 rfl) hkl
        have cq := fng_cell (HF.out.get (g := fun W => FnM W (some ⟨g11, 0, none⟩) Q Q o11) 1 rfl) hkl
        have cg := fng_cell (HF.out.get (g := fun W => FnM W (some ⟨g13, 0, none⟩) Q Q o13) 0 rfl) hkl
        have hf1 := Hv10.out k hkl
        have hq1 := zr_same (Hv11.out k hkl)
        have hg1 := zr_same (Hv13.out k hkl)
        obtain ⟨D1, hD1'⟩ : ∃ q, D + 1 = q := ⟨_, rfl⟩
        rw [hD1'] at hf1
        have e1 : (D : Int) + 1 = (D1 : Int) := by omega
        have j1 := wrapM D1 (by omega)
        obtain ⟨m, hm⟩ : ∃ q, k % D1 = q := ⟨_, rfl⟩
        have tm : (k : Int).tmod (D1 : Int) = (m : Int) := by rw [← hm]; exact (Int.ofNat_tmod k D1).symm
        have hm13 : m ≤ 13 := by rw [← hm]; have := Nat.mod_lt k (show 0 < D1 by omega); omega
        have j2 := wrapM m (by omega)
        have hd0 : ((D1 : Int) == 0) = false := by rw [beq_eq_false_iff_ne]; omega
        have hd1 : ¬ (D1 : Int) = 0 := by omega
        have o1 := ord_one
        have o2 := ord_nul
        rw [hm] at hf1
        obtain ⟨xf, hxf⟩ : ∃ q, o10 k = q := ⟨_, rfl⟩
        obtain ⟨xq, hxq⟩ : ∃ q, o11 k = q := ⟨_, rfl⟩
        obtain ⟨xg, hxg⟩ : ∃ q, o13 k = q := ⟨_, rfl⟩
        rw [hxf] at cf hf1
        rw [hxq] at cq hq1
        rw [hxg] at cg hg1
        clear hm hD1' hxf hxq hxg
        by_cases hm0 : m = 0
        · rw [if_pos hm0] at hf1
          subst hm0 hf1
          go_wp2_with fail
          go_roundw
          case rel => exact ⟨k + 1, by omega, by go_num, by first | exact trivial | exact rfl⟩
          case measure => simp [intOf]; omega
        · rw [if_neg hm0] at hf1
          subst hf1
          have hmI : ((m : Int) == 0) = false := by rw [beq_eq_false_iff_ne]; omega
          clear hm0
          go_wp2_with fail
          go_roundw
          case rel => exact ⟨k + 1, by omega, by go_num, by first | exact trivial | exact rfl⟩
          case measure => simp [intOf]; omega
      · obtain rfl : Q = k := by omega
        clear hkl hk
        go_wp2_with fail
        go_loopw [17] (fun iv wr => ∃ i : Nat, i ≤ n ∧ iv = .int .i64 i ∧ Hid (∀ q, q < i → K q ≠ 4) ∧ Hid (wr = a8)) (fun iv _ => n - (intOf iv).toNat)
        case atStart => exact ⟨0, Nat.zero_le _, rfl, fun _ h => absurd h (Nat.not_lt_zero _), rfl⟩
        case round =>
          obtain ⟨i, hi, rfl, HI, hw⟩ := hrel
          rw [hw.out]
          clear hw
          by_cases hil : i < n
          · have hiI : (i : Int) < (n : Int) := by omega
            have hi0 : (0 : Int) ≤ (i : Int) := by omega
            have hiN : i ≤ 4398046511104 := by have := HNN.out; omega
            have hkc := HKC.out _ HF.out.1 i hil
            obtain ⟨kk, hkk⟩ : ∃ q, K i = q := ⟨_, rfl⟩
            have HI2 : Hid (kk ≠ 4 → ∀ q, q < i + 1 → K q ≠ 4) := fun h4 q hq => by
              by_cases e : q = i
              · rw [e, hkk]; exact h4
              · exact HI.out q (by omega)
            rw [hkk] at hkc
            clear hkk
            by_cases h4 : kk = 4
            · subst h4
              go_wp2_with fail
              go_ret
              exact ⟨rfl, HF.out.1⟩
            · have HI3 := hid (HI2.out h4)
              have h4' : (kk == 4) = false := by rw [beq_eq_false_iff_ne]; exact h4
              go_wp2_with fail
              go_roundw
              case rel => exact ⟨i + 1, by omega, by go_num, HI3, by first | exact trivial | exact rfl⟩
              case measure => simp [intOf]; omega
          · obtain rfl : n = i := by omega
            clear hil hi
            obtain ⟨ms1, ms2, ms3, ms4, ms5⟩ := HS.out
            obtain ⟨mt1, mt2, mt3, mt4, mt5⟩ := HT.out
            have qs1 : -1024 ≤ qs := by omega
            have qs2 : qs ≤ 1024 := by omega
            have qt1 : -1024 ≤ qt := by omega
            have qt2 : qt ≤ 1024 := by omega
            have js1 : IntKind.i64.wrap qs = qs := IntWalk.i64_in _ (by omega)
            have jt1 : IntKind.i64.wrap qt = qt := IntWalk.i64_in _ (by omega)
            have js2 := wrapM asn (by omega)
            have jt2 := wrapM at' (by omega)
            have js3 := wrapM sn (by omega)
            have jt3 := wrapM tn (by omega)
            obtain ⟨un, hun⟩ : ∃ q, sn + tn = q := ⟨_, rfl⟩
            have eu : (sn : Int) + (tn : Int) = (un : Int) := by omega
            have ju := wrapM un (by omega)
            have HUN := hid hun
            have HSN := hid ms4
            have HTN := hid mt4
            have moc0 := mocell_of (HF.out.at 3 rfl : a8.heap[ba]? = some (MoBox ta n tc))
            clear hun ms4 mt4 ms5 mt5
            by_cases hu : 1024 ≤ un
            · have huI : (1024 : Int) ≤ (un : Int) := by omega
              clear moc0
              go_wp2_with fail
              go_ret
              exact ⟨rfl, HF.out.1⟩
            · have huI : ¬ (1024 : Int) ≤ (un : Int) := by omega
              have HU4 : Hid (un < 1024) := by show un < 1024; omega
              obtain ⟨ks, hks⟩ : ∃ q : Int, (sn : Int) * 1000000 = q := ⟨_, rfl⟩
              obtain ⟨kt, hkt⟩ : ∃ q : Int, (tn : Int) * 1000000 = q := ⟨_, rfl⟩
              obtain ⟨ku, hku⟩ : ∃ q : Int, (un : Int) * 1000000 = q := ⟨_, rfl⟩
              have wks : IntKind.i64.wrap ks = ks := IntWalk.i64_in _ (by have := HSN.out; omega)
              have wkt : IntKind.i64.wrap kt = kt := IntWalk.i64_in _ (by have := HTN.out; omega)
              have wku : IntKind.i64.wrap ku = ku := IntWalk.i64_in _ (by have := HU4.out; omega)
              have HFA := hid (fun W hp => HFS.out ta tc W hp sn ks HSN.out hks.symm HI.out)
              have HFB := hid (fun W hp => HFS.out ta tc W hp tn kt HTN.out hkt.symm HI.out)
              have HFC := hid (fun W hp => HFS.out ta tc W hp un ku HU4.out hku.symm HI.out)
              have HLA := hid (HLE.out sn HSN.out)
              have HLB := hid (HLE.out tn HTN.out)
              have HLC := hid (HLE.out un HU4.out)
              have HMP := hid (HMV.out sn tn)
              rw [HUN.out] at HMP
              obtain ⟨ma, hma⟩ : ∃ q, mtV (fun q => blH (K q) sn) K A (axP A n) = q := ⟨_, rfl⟩
              obtain ⟨mb, hmb⟩ : ∃ q, mtV (fun q => blH (K q) tn) K A (axP A n) = q := ⟨_, rfl⟩
              obtain ⟨mc, hmc⟩ : ∃ q, mtV (fun q => blH (K q) un) K A (axP A n) = q := ⟨_, rfl⟩
              rw [hma] at HFA HLA
              rw [hmb] at HFB HLB
              rw [hmc] at HFC HLC
              rw [hma, hmb, hmc] at HMP
              clear hu hma hmb hmc
              go_wp2_with fail
              refine (HFA.out _ (HF.out.get (g := fun W => PtF W ta n K A N F) 3 rfl)).mono ?_
              rintro e a9 ⟨⟨g18, o18, rfl, hf, hv⟩, hb⟩
              have HF : Hid (FrG w a9 [(b13, MBox D D (some ⟨g13, 0, none⟩) Q Q), (b11, MBox D D (some ⟨g11, 0, none⟩) Q Q), (b10, MBox D D (some ⟨g10, 0, none⟩) Q Q), (ba, MoBox ta n tc)] [fun W => FnM W (some ⟨g13, 0, none⟩) Q Q o13, fun W => FnM W (some ⟨g11, 0, none⟩) Q Q o11, fun W => FnM W (some ⟨g10, 0, none⟩) Q Q o10, fun W => PtF W ta n K A N F]) := HF.out.call hb
              have HF : Hid (FrG w a9 [(b13, MBox D D (some ⟨g13, 0, none⟩) Q Q), (b11, MBox D D (some ⟨g11, 0, none⟩) Q Q), (b10, MBox D D (some ⟨g10, 0, none⟩) Q Q), (ba, MoBox ta n tc)] [fun W => FnM W (some ⟨g18, 0, none⟩) Q Q o18, fun W => FnM W (some ⟨g13, 0, none⟩) Q Q o13, fun W => FnM W (some ⟨g11, 0, none⟩) Q Q o11, fun W => FnM W (some ⟨g10, 0, none⟩) Q Q o10, fun W => PtF W ta n K A N F]) := HF.out.add (fun _ _ hb h => h.below hb) hf
              clear hb
              have Hv18 := hid hv
              clear hf hv
              clear moc0
              have HF : Hid (FrG w (a9.alloc (MBox D D (some ⟨g18, 0, none⟩) Q Q)) [(a9.heap.size, MBox D D (some ⟨g18, 0, none⟩) Q Q), (b13, MBox D D (some ⟨g13, 0, none⟩) Q Q), (b11, MBox D D (some ⟨g11, 0, none⟩) Q Q), (b10, MBox D D (some ⟨g10, 0, none⟩) Q Q), (ba, MoBox ta n tc)] [fun W => FnM W (some ⟨g18, 0, none⟩) Q Q o18, fun W => FnM W (some ⟨g13, 0, none⟩) Q Q o13, fun W => FnM W (some ⟨g11, 0, none⟩) Q Q o11, fun W => FnM W (some ⟨g10, 0, none⟩) Q Q o10, fun W => PtF W ta n K A N F]) := HF.out.alloc _
              obtain ⟨V5, hV5⟩ : ∃ V, Hid (a9.alloc (MBox D D (some ⟨g18, 0, none⟩) Q Q) = V) := ⟨_, rfl⟩
              obtain ⟨b18, hb18⟩ : ∃ t, Hid (a9.heap.size = t) := ⟨_, rfl⟩
              rw [hV5.out, hb18.out] at HF
              have hV5' := hV5.out
              unfold MBox at hV5'
              have hb18' := hb18.out
              have c0 := mocell_of (HF.out.at 4 rfl : V5.heap[ba]? = some (MoBox ta n tc))
              go_wp2_with fail
              refine (HFB.out _ (HF.out.get (g := fun W => PtF W ta n K A N F) 4 rfl)).mono ?_
              rintro e a10 ⟨⟨g19, o19, rfl, hf, hv⟩, hb⟩
              have HF : Hid (FrG w a10 [(b18, MBox D D (some ⟨g18, 0, none⟩) Q Q), (b13, MBox D D (some ⟨g13, 0, none⟩) Q Q), (b11, MBox D D (some ⟨g11, 0, none⟩) Q Q), (b10, MBox D D (some ⟨g10, 0, none⟩) Q Q), (ba, MoBox ta n tc)] [fun W => FnM W (some ⟨g18, 0, none⟩) Q Q o18, fun W => FnM W (some ⟨g13, 0, none⟩) Q Q o13, fun W => FnM W (some ⟨g11, 0, none⟩) Q Q o11, fun W => FnM W (some ⟨g10, 0, none⟩) Q Q o10, fun W => PtF W ta n K A N F]) := HF.out.call hb
              have HF : Hid (FrG w a10 [(b18, MBox D D (some ⟨g18, 0, none⟩) Q Q), (b13, MBox D D (some ⟨g13, 0, none⟩) Q Q), (b11, MBox D D (some ⟨g11, 0, none⟩) Q Q), (b10, MBox D D (some ⟨g10, 0, none⟩) Q Q), (ba, MoBox ta n tc)] [fun W => FnM W (some ⟨g19, 0, none⟩) Q Q o19, fun W => FnM W (some ⟨g18, 0, none⟩) Q Q o18, fun W => FnM W (some ⟨g13, 0, none⟩) Q Q o13, fun W => FnM W (some ⟨g11, 0, none⟩) Q Q o11, fun W => FnM W (some ⟨g10, 0, none⟩) Q Q o10, fun W => PtF W ta n K A N F]) := HF.out.add (fun _ _ hb h => h.below hb) hf
              clear hb
              have Hv19 := hid hv
              clear hf hv
              clear c0
              have HF : Hid (FrG w (a10.alloc (MBox D D (some ⟨g19, 0, none⟩) Q Q)) [(a10.heap.size, MBox D D (some ⟨g19, 0, none⟩) Q Q), (b18, MBox D D (some ⟨g18, 0, none⟩) Q Q), (b13, MBox D D (some ⟨g13, 0, none⟩) Q Q), (b11, MBox D D (some ⟨g11, 0, none⟩) Q Q), (b10, MBox D D (some ⟨g10, 0, none⟩) Q Q), (ba, MoBox ta n tc)] [fun W => FnM W (some ⟨g19, 0, none⟩) Q Q o19, fun W => FnM W (some ⟨g18, 0, none⟩) Q Q o18, fun W => FnM W (some ⟨g13, 0, none⟩) Q Q o13, fun W => FnM W (some ⟨g11, 0, none⟩) Q Q o11, fun W => FnM W (some ⟨g10, 0, none⟩) Q Q o10, fun W => PtF W ta n K A N F]) := HF.out.alloc _
              obtain ⟨V6, hV6⟩ : ∃ V, Hid (a10.alloc (MBox D D (some ⟨g19, 0, none⟩) Q Q) = V) := ⟨_, rfl⟩
              obtain ⟨b19, hb19⟩ : ∃ t, Hid (a10.heap.size = t) := ⟨_, rfl⟩
              rw [hV6.out, hb19.out] at HF
              have hV6' := hV6.out
              unfold MBox at hV6'
              have hb19' := hb19.out
              have c0 := mocell_of (HF.out.at 5 rfl : V6.heap[ba]? = some (MoBox ta n tc))
              go_wp2_with fail
              refine (HFC.out _ (HF.out.get (g := fun W => PtF W ta n K A N F) 5 rfl)).mono ?_
              rintro e a11 ⟨⟨g20, o20, rfl, hf, hv⟩, hb⟩
              have HF : Hid (FrG w a11 [(b19, MBox D D (some ⟨g19, 0, none⟩) Q Q), (b18, MBox D D (some ⟨g18, 0, none⟩) Q Q), (b13, MBox D D (some ⟨g13, 0, none⟩) Q Q), (b11, MBox D D (some ⟨g11, 0, none⟩) Q Q), (b10, MBox D D (some ⟨g10, 0, none⟩) Q Q), (ba, MoBox ta n tc)] [fun W => FnM W (some ⟨g19, 0, none⟩) Q Q o19, fun W => FnM W (some ⟨g18, 0, none⟩) Q Q o18, fun W => FnM W (some ⟨g13, 0, none⟩) Q Q o13, fun W => FnM W (some ⟨g11, 0, none⟩) Q Q o11, fun W => FnM W (some ⟨g10, 0, none⟩) Q Q o10, fun W => PtF W ta n K A N F]) := HF.out.call hb
              have HF : Hid (FrG w a11 [(b19, MBox D D (some ⟨g19, 0, none⟩) Q Q), (b18, MBox D D (some ⟨g18, 0, none⟩) Q Q), (b13, MBox D D (some ⟨g13, 0, none⟩) Q Q), (b11, MBox D D (some ⟨g11, 0, none⟩) Q Q), (b10, MBox D D (some ⟨g10, 0, none⟩) Q Q), (ba, MoBox ta n tc)] [fun W => FnM W (some ⟨g20, 0, none⟩) Q Q o20, fun W => FnM W (some ⟨g19, 0, none⟩) Q Q o19, fun W => FnM W (some ⟨g18, 0, none⟩) Q Q o18, fun W => FnM W (some ⟨g13, 0, none⟩) Q Q o13, fun W => FnM W (some ⟨g11, 0, none⟩) Q Q o11, fun W => FnM W (some ⟨g10, 0, none⟩) Q Q o10, fun W => PtF W ta n K A N F]) := HF.out.add (fun _ _ hb h => h.below hb) hf
              clear hb
              have Hv20 := hid hv
              clear hf hv
              clear c0
              have HF : Hid (FrG w (a11.alloc (MBox D D (some ⟨g20, 0, none⟩) Q Q)) [(a11.heap.size, MBox D D (some ⟨g20, 0, none⟩) Q Q), (b19, MBox D D (some ⟨g19, 0, none⟩) Q Q), (b18, MBox D D (some ⟨g18, 0, none⟩) Q Q), (b13, MBox D D (some ⟨g13, 0, none⟩) Q Q), (b11, MBox D D (some ⟨g11, 0, none⟩) Q Q), (b10, MBox D D (some ⟨g10, 0, none⟩) Q Q), (ba, MoBox ta n tc)] [fun W => FnM W (some ⟨g20, 0, none⟩) Q Q o20, fun W => FnM W (some ⟨g19, 0, none⟩) Q Q o19, fun W => FnM W (some ⟨g18, 0, none⟩) Q Q o18, fun W => FnM W (some ⟨g13, 0, none⟩) Q Q o13, fun W => FnM W (some ⟨g11, 0, none⟩) Q Q o11, fun W => FnM W (some ⟨g10, 0, none⟩) Q Q o10, fun W => PtF W ta n K A N F]) := HF.out.alloc _
              obtain ⟨V7, hV7⟩ : ∃ V, Hid (a11.alloc (MBox D D (some ⟨g20, 0, none⟩) Q Q) = V) := ⟨_, rfl⟩
              obtain ⟨b20, hb20⟩ : ∃ t, Hid (a11.heap.size = t) := ⟨_, rfl⟩
              rw [hV7.out, hb20.out] at HF
              have hV7' := hV7.out
              unfold MBox at hV7'
              have hb20' := hb20.out
              have c0 := mocell_of (HF.out.at 6 rfl : V7.heap[ba]? = some (MoBox ta n tc))
              clear c0
              obtain ⟨x0, x1, x2⟩ := mcells_of (HF.out.at 2 rfl : V7.heap[b18]? = some (MBox D D (some ⟨g18, 0, none⟩) Q Q))
              go_wp2_with fail
              refine (HGD.out g18 _).mono ?_
              rintro e a12 ⟨rfl, hb⟩
              have HF : Hid (FrG w a12 [(b20, MBox D D (some ⟨g20, 0, none⟩) Q Q), (b19, MBox D D (some ⟨g19, 0, none⟩) Q Q), (b18, MBox D D (some ⟨g18, 0, none⟩) Q Q), (b13, MBox D D (some ⟨g13, 0, none⟩) Q Q), (b11, MBox D D (some ⟨g11, 0, none⟩) Q Q), (b10, MBox D D (some ⟨g10, 0, none⟩) Q Q), (ba, MoBox ta n tc)] [fun W => FnM W (some ⟨g20, 0, none⟩) Q Q o20, fun W => FnM W (some ⟨g19, 0, none⟩) Q Q o19, fun W => FnM W (some ⟨g18, 0, none⟩) Q Q o18, fun W => FnM W (some ⟨g13, 0, none⟩) Q Q o13, fun W => FnM W (some ⟨g11, 0, none⟩) Q Q o11, fun W => FnM W (some ⟨g10, 0, none⟩) Q Q o10, fun W => PtF W ta n K A N F]) := HF.out.call hb
              clear hb
              clear x0 x1 x2
              obtain ⟨x0, x1, x2⟩ := mcells_of (HF.out.at 1 rfl : a12.heap[b19]? = some (MBox D D (some ⟨g19, 0, none⟩) Q Q))
              go_wp2_with fail
              refine (HGD.out g19 _).mono ?_
              rintro e a13 ⟨rfl, hb⟩
              have HF : Hid (FrG w a13 [(b20, MBox D D (some ⟨g20, 0, none⟩) Q Q), (b19, MBox D D (some ⟨g19, 0, none⟩) Q Q), (b18, MBox D D (some ⟨g18, 0, none⟩) Q Q), (b13, MBox D D (some ⟨g13, 0, none⟩) Q Q), (b11, MBox D D (some ⟨g11, 0, none⟩) Q Q), (b10, MBox D D (some ⟨g10, 0, none⟩) Q Q), (ba, MoBox ta n tc)] [fun W => FnM W (some ⟨g20, 0, none⟩) Q Q o20, fun W => FnM W (some ⟨g19, 0, none⟩) Q Q o19, fun W => FnM W (some ⟨g18, 0, none⟩) Q Q o18, fun W => FnM W (some ⟨g13, 0, none⟩) Q Q o13, fun W => FnM W (some ⟨g11, 0, none⟩) Q Q o11, fun W => FnM W (some ⟨g10, 0, none⟩) Q Q o10, fun W => PtF W ta n K A N F]) := HF.out.call hb
              clear hb
              clear x0 x1 x2
              obtain ⟨x0, x1, x2⟩ := mcells_of (HF.out.at 0 rfl : a13.heap[b20]? = some (MBox D D (some ⟨g20, 0, none⟩) Q Q))
              go_wp2_with fail
              refine (HGD.out g20 _).mono ?_
              rintro e a14 ⟨rfl, hb⟩
              have HF : Hid (FrG w a14 [(b20, MBox D D (some ⟨g20, 0, none⟩) Q Q), (b19, MBox D D (some ⟨g19, 0, none⟩) Q Q), (b18, MBox D D (some ⟨g18, 0, none⟩) Q Q), (b13, MBox D D (some ⟨g13, 0, none⟩) Q Q), (b11, MBox D D (some ⟨g11, 0, none⟩) Q Q), (b10, MBox D D (some ⟨g10, 0, none⟩) Q Q), (ba, MoBox ta n tc)] [fun W => FnM W (some ⟨g20, 0, none⟩) Q Q o20, fun W => FnM W (some ⟨g19, 0, none⟩) Q Q o19, fun W => FnM W (some ⟨g18, 0, none⟩) Q Q o18, fun W => FnM W (some ⟨g13, 0, none⟩) Q Q o13, fun W => FnM W (some ⟨g11, 0, none⟩) Q Q o11, fun W => FnM W (some ⟨g10, 0, none⟩) Q Q o10, fun W => PtF W ta n K A N F]) := HF.out.call hb
              clear hb
              clear x0 x1 x2
              clear ms1 ms2 ms3 mt1 mt2 mt3 qs1 qs2 qt1 qt2 js1 jt1 js2 jt2 js3 jt3 hks hkt hku wks wkt wku huI eu ju
              go_wp2_with fail
              have HF : Hid (FrG w a14 [(b20, MBox D D (some ⟨g20, 0, none⟩) Q Q), (b19, MBox D D (some ⟨g19, 0, none⟩) Q Q), (b18, MBox D D (some ⟨g18, 0, none⟩) Q Q)] [fun W => FnM W (some ⟨g20, 0, none⟩) Q Q o20, fun W => FnM W (some ⟨g19, 0, none⟩) Q Q o19, fun W => FnM W (some ⟨g18, 0, none⟩) Q Q o18]) := ⟨HF.out.1, fun e he => HF.out.2.1 e (by simp only [List.mem_cons, List.not_mem_nil, or_false] at he ⊢; rcases he with h | h | h <;> simp [h]), fun g hg => HF.out.2.2 g (by simp only [List.mem_cons, List.not_mem_nil, or_false] at hg ⊢; rcases hg with h | h | h <;> simp [h])⟩
              go_loopw [21] (fun iv wr => ∃ i : Nat, i ≤ D ∧ iv = .int .i64 i ∧ Hid (FrG w wr [(b20, MBox D D (some ⟨g20, 0, none⟩) Q Q), (b19, MBox D D (some ⟨g19, 0, none⟩) Q Q), (b18, MBox D D (some ⟨g18, 0, none⟩) Q Q)] [fun W => FnM W (some ⟨g20, 0, none⟩) Q Q o20, fun W => FnM W (some ⟨g19, 0, none⟩) Q Q o19, fun W => FnM W (some ⟨g18, 0, none⟩) Q Q o18])) (fun iv _ => D - (intOf iv).toNat)
              case atStart => exact ⟨0, Nat.zero_le _, rfl, HF⟩
              case round =>
                clear HF
                obtain ⟨x, hx, rfl, HF⟩ := hrel
                by_cases hxl : x < D
                · have hxI : (x : Int) < (D : Int) := by omega
                  go_wp2_with fail
                  go_loopw [22] (fun iv wr => ∃ j : Nat, j ≤ D ∧ iv = .int .i64 j ∧ Hid (FrG w wr [(b20, MBox D D (some ⟨g20, 0, none⟩) Q Q), (b19, MBox D D (some ⟨g19, 0, none⟩) Q Q), (b18, MBox D D (some ⟨g18, 0, none⟩) Q Q)] [fun W => FnM W (some ⟨g20, 0, none⟩) Q Q o20, fun W => FnM W (some ⟨g19, 0, none⟩) Q Q o19, fun W => FnM W (some ⟨g18, 0, none⟩) Q Q o18])) (fun iv _ => D - (intOf iv).toNat)
                  case atStart => exact ⟨0, Nat.zero_le _, rfl, HF⟩
                  case round =>
                    clear HF
                    obtain ⟨y, hy, rfl, HF⟩ := hrel
                    by_cases hyl : y < D
                    · have hyI : (y : Int) < (D : Int) := by omega
                      go_wp2_with fail
                      go_loopw [23, 24] (fun sv' kv wr => ∃ (k S : Nat), k ≤ D ∧ kv = .int .i64 k ∧ sv' = .float .f64 S ∧ Hid (S = vq (sumN (fun m => ma x m * mb m y) k)) ∧ Hid (FrG w wr [(b20, MBox D D (some ⟨g20, 0, none⟩) Q Q), (b19, MBox D D (some ⟨g19, 0, none⟩) Q Q), (b18, MBox D D (some ⟨g18, 0, none⟩) Q Q)] [fun W => FnM W (some ⟨g20, 0, none⟩) Q Q o20, fun W => FnM W (some ⟨g19, 0, none⟩) Q Q o19, fun W => FnM W (some ⟨g18, 0, none⟩) Q Q o18])) (fun _ kv _ => D - (intOf kv).toNat)
                      case atStart => exact ⟨0, 0, Nat.zero_le _, rfl, rfl, vq_zero.symm, HF⟩
                      case round =>
                        clear HF
                        obtain ⟨k, S, hk, rfl, rfl, HSU, HF⟩ := hrel
                        by_cases hkl : k < D
                        · have hkI : (k : Int) < (D : Int) := by omega
                          have HA := hid (fun W (hf : FnM W (some ⟨g18, 0, none⟩) Q Q o18) => HAT.out g18 x k o18 W hf hxl hkl)
                          have HB := hid (fun W (hf : FnM W (some ⟨g19, 0, none⟩) Q Q o19) => HAT.out g19 k y o19 W hf hkl hyl)
                          rw [Hv18.out x k hxl hkl] at HA
                          rw [Hv19.out k y hkl hyl] at HB
                          have hmu := vq_mul (ma x k) (mb k y) (by have := HLA.out x k; omega) (by have := HLB.out k y; omega)
                          have hpr : ma x k * mb k y ≤ 1048576 * 1048576 := Nat.mul_le_mul (HLA.out x k) (HLB.out k y)
                          have hsl : sumN (fun m => ma x m * mb m y) k ≤ k * (1048576 * 1048576) := sum_le k (fun m _ => Nat.mul_le_mul (HLA.out x m) (HLB.out m y))
                          have hsl2 : k * (1048576 * 1048576) ≤ 12 * (1048576 * 1048576) := Nat.mul_le_mul_right _ (by omega)
                          have had := vq_add (sumN (fun m => ma x m * mb m y) k) (ma x k * mb k y) (by omega)
                          have HSN2 : Hid (vq (sumN (fun m => ma x m * mb m y) k + ma x k * mb k y) = vq (sumN (fun m => ma x m * mb m y) (k + 1))) := rfl
                          rw [← HSU.out] at had
                          obtain ⟨pa, hpa⟩ : ∃ q, vq (2 * ma x k) = q := ⟨_, rfl⟩
                          obtain ⟨pb2, hpb⟩ : ∃ q, vq (2 * mb k y) = q := ⟨_, rfl⟩
                          obtain ⟨pc, hpc⟩ : ∃ q, vq (ma x k * mb k y) = q := ⟨_, rfl⟩
                          obtain ⟨S2, hS2⟩ : ∃ q, vq (sumN (fun m => ma x m * mb m y) k + ma x k * mb k y) = q := ⟨_, rfl⟩
                          rw [hpa] at HA hmu
                          rw [hpb] at HB hmu
                          rw [hpc] at hmu had
                          rw [hS2] at had HSN2
                          have rmu := arq_run .mul pa pb2 pc hmu (by simp)
                          have rad := arq_run .add S pc S2 had (by simp)
                          clear hpa hpb hpc hS2 hmu had hpr hsl hsl2
                          have HSS : Hid (∀ W, (FrG w W [(b20, MBox D D (some ⟨g20, 0, none⟩) Q Q), (b19, MBox D D (some ⟨g19, 0, none⟩) Q Q), (b18, MBox D D (some ⟨g18, 0, none⟩) Q Q)] [fun W => FnM W (some ⟨g20, 0, none⟩) Q Q o20, fun W => FnM W (some ⟨g19, 0, none⟩) Q Q o19, fun W => FnM W (some ⟨g18, 0, none⟩) Q Q o18]) → (W.cell? ⟨b18, 0, none⟩ = some (.int .i64 D) ∧ W.cell? ⟨b18, 1, none⟩ = some (.int .i64 D) ∧ W.cell? ⟨b18, 2, none⟩ = some (.slice (some ⟨g18, 0, none⟩) Q Q)) ∧ (W.cell? ⟨b19, 0, none⟩ = some (.int .i64 D) ∧ W.cell? ⟨b19, 1, none⟩ = some (.int .i64 D) ∧ W.cell? ⟨b19, 2, none⟩ = some (.slice (some ⟨g19, 0, none⟩) Q Q))) := fun W hW => ⟨mcells_of (hW.at (b := b18) (o := MBox D D (some ⟨g18, 0, none⟩) Q Q) 2 rfl), mcells_of (hW.at (b := b19) (o := MBox D D (some ⟨g19, 0, none⟩) Q Q) 1 rfl)⟩
                          have HFD : Hid (FrG w wr.drew [(b20, MBox D D (some ⟨g20, 0, none⟩) Q Q), (b19, MBox D D (some ⟨g19, 0, none⟩) Q Q), (b18, MBox D D (some ⟨g18, 0, none⟩) Q Q)] [fun W => FnM W (some ⟨g20, 0, none⟩) Q Q o20, fun W => FnM W (some ⟨g19, 0, none⟩) Q Q o19, fun W => FnM W (some ⟨g18, 0, none⟩) Q Q o18]) := HF.out.drew
                          go_wp2_with fail
                          refine wp_region_held_drew (S := fun W => (W.cell? ⟨b18, 0, none⟩ = some (.int .i64 D) ∧ W.cell? ⟨b18, 1, none⟩ = some (.int .i64 D) ∧ W.cell? ⟨b18, 2, none⟩ = some (.slice (some ⟨g18, 0, none⟩) Q Q)) ∧ (W.cell? ⟨b19, 0, none⟩ = some (.int .i64 D) ∧ W.cell? ⟨b19, 1, none⟩ = some (.int .i64 D) ∧ W.cell? ⟨b19, 2, none⟩ = some (.slice (some ⟨g19, 0, none⟩) Q Q))) (by kernel_rfl) (HSS.out _ HFD.out) (fun hHeld => ?_)
                          refine take_at 0 208 (.float .f64 S) rfl rfl (by kernel_rfl) (by kernel_rfl) (by kernel_rfl) (fun _ _ _ h => h) (Or.inl ⟨by rfl, fun w hSw => by (try dsimp only at hSw); go_simp⟩) (by assumption) ?_
                          simp only [Act.put, List.setIfInBounds_toArray, List.set_cons_zero, List.set_cons_succ]
                          refine take_at 1 209 (.agg #[.int .i64 D, .int .i64 D, .slice (some ⟨g18, 0, none⟩) Q Q]) rfl rfl (by kernel_rfl) (by kernel_rfl) (by kernel_rfl) (fun _ _ _ h => h) (Or.inl ⟨by rfl, fun w hSw => by (try dsimp only at hSw); go_simp⟩) (by assumption) ?_
                          simp only [Act.put, List.setIfInBounds_toArray, List.set_cons_zero, List.set_cons_succ]
                          refine take_at 2 210 (.int .i64 x) rfl rfl (by kernel_rfl) (by kernel_rfl) (by kernel_rfl) (fun _ _ _ h => h) (Or.inl ⟨by rfl, fun w hSw => by (try dsimp only at hSw); go_simp⟩) (by assumption) ?_
                          simp only [Act.put, List.setIfInBounds_toArray, List.set_cons_zero, List.set_cons_succ]
                          refine take_at 3 211 (.int .i64 k) rfl rfl (by kernel_rfl) (by kernel_rfl) (by kernel_rfl) (fun _ _ _ h => h) (Or.inl ⟨by rfl, fun w hSw => by (try dsimp only at hSw); go_simp⟩) (by assumption) ?_
                          simp only [Act.put, List.setIfInBounds_toArray, List.set_cons_zero, List.set_cons_succ]
                          refine take_at 5 213 (.agg #[.int .i64 D, .int .i64 D, .slice (some ⟨g19, 0, none⟩) Q Q]) rfl rfl (by kernel_rfl) (by kernel_rfl) (by kernel_rfl) (fun _ _ _ h => h) (Or.inl ⟨by rfl, fun w hSw => by (try dsimp only at hSw); go_simp⟩) (by assumption) ?_
                          simp only [Act.put, List.setIfInBounds_toArray, List.set_cons_zero, List.set_cons_succ]
                          refine take_at 6 214 (.int .i64 k) rfl rfl (by kernel_rfl) (by kernel_rfl) (by kernel_rfl) (fun _ _ _ h => h) (Or.inl ⟨by rfl, fun w hSw => by (try dsimp only at hSw); go_simp⟩) (by assumption) ?_
                          simp only [Act.put, List.setIfInBounds_toArray, List.set_cons_zero, List.set_cons_succ]
                          refine take_at 7 215 (.int .i64 y) rfl rfl (by kernel_rfl) (by kernel_rfl) (by kernel_rfl) (fun _ _ _ h => h) (Or.inl ⟨by rfl, fun w hSw => by (try dsimp only at hSw); go_simp⟩) (by assumption) ?_
                          simp only [Act.put, List.setIfInBounds_toArray, List.set_cons_zero, List.set_cons_succ]
                          refine wpAnyH_ready (rs := [4]) (by kernel_rfl) (by simp) ?_
                          refine AllReadyH.cons (o := _) rfl (fun K' hK => ?_) AllReadyH.nil
                          go_simp
                          refine (HA.out _ (HFD.out.get (g := fun W => FnM W (some ⟨g18, 0, none⟩) Q Q o18) 2 rfl)).mono ?_
                          rintro e d1 ⟨rfl, hb⟩
                          have HF1 : Hid (FrG w d1 [(b20, MBox D D (some ⟨g20, 0, none⟩) Q Q), (b19, MBox D D (some ⟨g19, 0, none⟩) Q Q), (b18, MBox D D (some ⟨g18, 0, none⟩) Q Q)] [fun W => FnM W (some ⟨g20, 0, none⟩) Q Q o20, fun W => FnM W (some ⟨g19, 0, none⟩) Q Q o19, fun W => FnM W (some ⟨g18, 0, none⟩) Q Q o18]) := HFD.out.call hb
                          clear hb
                          go_wp2_with fail
                          refine hK.out _ _ (HSS.out _ HF1.out) (fun hHeld1 => ?_)
                          clear hK K'
                          try simp only [Act.put, List.setIfInBounds_toArray, List.set_cons_zero, List.set_cons_succ]
                          refine wpAnyH_ready (rs := [8]) (by kernel_rfl) (by simp) ?_
                          refine AllReadyH.cons (o := _) rfl (fun K' hK => ?_) AllReadyH.nil
                          go_simp
                          refine (HB.out _ (HF1.out.get (g := fun W => FnM W (some ⟨g19, 0, none⟩) Q Q o19) 1 rfl)).mono ?_
                          rintro e d2 ⟨rfl, hb⟩
                          have HF2 : Hid (FrG w d2 [(b20, MBox D D (some ⟨g20, 0, none⟩) Q Q), (b19, MBox D D (some ⟨g19, 0, none⟩) Q Q), (b18, MBox D D (some ⟨g18, 0, none⟩) Q Q)] [fun W => FnM W (some ⟨g20, 0, none⟩) Q Q o20, fun W => FnM W (some ⟨g19, 0, none⟩) Q Q o19, fun W => FnM W (some ⟨g18, 0, none⟩) Q Q o18]) := HF1.out.call hb
                          clear hb
                          go_wp2_with fail
                          refine hK.out _ _ (HSS.out _ HF2.out) (fun hHeld2 => ?_)
                          clear hK K'
                          try simp only [Act.put, List.setIfInBounds_toArray, List.set_cons_zero, List.set_cons_succ]
                          refine take_at 9 217 (.float .f64 pc) rfl rfl (by kernel_rfl) (by kernel_rfl) (by kernel_rfl) (fun _ _ _ h => h) (Or.inl ⟨by rfl, fun w hSw => by (try dsimp only at hSw); go_simp⟩) (by assumption) ?_
                          simp only [Act.put, List.setIfInBounds_toArray, List.set_cons_zero, List.set_cons_succ]
                          refine take_at 10 218 (.float .f64 S2) rfl rfl (by kernel_rfl) (by kernel_rfl) (by kernel_rfl) (fun _ _ _ h => h) (Or.inl ⟨by rfl, fun w hSw => by (try dsimp only at hSw); go_simp⟩) (by assumption) ?_
                          simp only [Act.put, List.setIfInBounds_toArray, List.set_cons_zero, List.set_cons_succ]
                          refine take_at 11 23 (.float .f64 S2) rfl rfl (by kernel_rfl) (by kernel_rfl) (by kernel_rfl) (fun _ _ _ h => h) (Or.inl ⟨by rfl, fun w hSw => by (try dsimp only at hSw); go_simp⟩) (by assumption) ?_
                          simp only [Act.put, List.setIfInBounds_toArray, List.set_cons_zero, List.set_cons_succ]
                          refine wpAnyH_done (by kernel_rfl) ?_ _
                          clear hHeld hHeld1 hHeld2
                          go_wp2_with fail
                          go_roundw
                          case rel => exact ⟨k + 1, S2, by omega, by go_num, rfl, HSN2.out.symm ▸ rfl, HF2⟩
                          case measure => simp [intOf]; omega
                        · obtain rfl : D = k := by omega
                          obtain ⟨x0, x1, x2⟩ := mcells_of (HF.out.at 0 rfl : wr.heap[b20]? = some (MBox D D (some ⟨g20, 0, none⟩) Q Q))
                          have HC := hid (HAT.out g20 x y o20 _ (HF.out.get (g := fun W => FnM W (some ⟨g20, 0, none⟩) Q Q o20) 0 rfl) hxl hyl)
                          rw [Hv20.out x y hxl hyl, ← HMP.out x y, ← HSU.out] at HC
                          have hsm : (FloatKind.f64.format.order S S != some .eq) = false := by
                            rw [HSU.out]
                            refine vq_same _ ?_
                            rw [HMP.out x y]
                            have := HLC.out x y
                            omega
                          go_wp2_with fail
                          refine (HC.out).mono ?_
                          rintro e b1 ⟨rfl, hb⟩
                          have HF : Hid (FrG w b1 [(b20, MBox D D (some ⟨g20, 0, none⟩) Q Q), (b19, MBox D D (some ⟨g19, 0, none⟩) Q Q), (b18, MBox D D (some ⟨g18, 0, none⟩) Q Q)] [fun W => FnM W (some ⟨g20, 0, none⟩) Q Q o20, fun W => FnM W (some ⟨g19, 0, none⟩) Q Q o19, fun W => FnM W (some ⟨g18, 0, none⟩) Q Q o18]) := HF.out.call hb
                          clear hb x0 x1 x2
                          go_wp2_with fail
                          go_roundw
                          case rel => exact ⟨y + 1, by omega, by go_num, HF⟩
                          case measure => simp [intOf]; omega
                    · obtain rfl : D = y := by omega
                      go_wp2_with fail
                      go_roundw
                      case rel => exact ⟨x + 1, by omega, by go_num, HF⟩
                      case measure => simp [intOf]; omega
                · obtain rfl : D = x := by omega
                  go_wp2_with fail
                  go_ret
                  exact ⟨rfl, HF.out.1⟩
  · have HE0 := hid hE0
    obtain ⟨E, hE⟩ : ∃ t, dmE n K A N F = t := ⟨_, rfl⟩
    rw [hE] at HDM HCK HE0
    have hne : (E != 0) = true := by have := HE0.out; simpa using this
    have hee : (E == E) = true := by simp
    clear h hn hE hE0
    go_enter Try.func3, Try.ntmps3
    have HF : Hid (FrG w w [] []) := ⟨Below.refl _ _, fun _ he => absurd he List.not_mem_nil, fun _ he => absurd he List.not_mem_nil⟩
    go_wp2_with fail
    refine (HAW.out _).mono ?_
    rintro e a0 ⟨rfl, hb⟩
    have HF : Hid (FrG w a0 [] []) := HF.out.call hb
    clear hb
    go_wp2_with fail
    refine (HM.out _ HF.out.1).mono ?_
    rintro e a1 ⟨⟨ta, tc, rfl, hp⟩, hb⟩
    have HF : Hid (FrG w a1 [] []) := HF.out.call hb
    have HF : Hid (FrG w a1 [] [fun W => PtF W ta n K A N F]) := HF.out.add (fun _ _ hb h => h.below hb) hp
    clear hb
    have HF : Hid (FrG w (a1.alloc (MoBox ta n tc)) [(a1.heap.size, MoBox ta n tc)] [fun W => PtF W ta n K A N F]) := HF.out.alloc _
    obtain ⟨V1, hV1⟩ : ∃ V, Hid (a1.alloc (MoBox ta n tc) = V) := ⟨_, rfl⟩
    obtain ⟨ba, hba⟩ : ∃ t, Hid (a1.heap.size = t) := ⟨_, rfl⟩
    rw [hV1.out, hba.out] at HF
    have hV1' := hV1.out
    unfold MoBox at hV1'
    have hba' := hba.out
    have c0 := mocell_of (HF.out.at 0 rfl : V1.heap[ba]? = some (MoBox ta n tc))
    clear hp
    go_wp2_with fail
    refine (HDM.out ta tc _ (HF.out.get (g := fun W => PtF W ta n K A N F) 0 rfl)).mono ?_
    rintro e a2 ⟨rfl, hb⟩
    have HF : Hid (FrG w a2 [(ba, MoBox ta n tc)] [fun W => PtF W ta n K A N F]) := HF.out.call hb
    clear hb
    have c0 := mocell_of (HF.out.at 0 rfl : a2.heap[ba]? = some (MoBox ta n tc))
    go_wp2_with fail
    refine (HCK.out ta tc _ (HF.out.get (g := fun W => PtF W ta n K A N F) 0 rfl)).mono ?_
    rintro e a3 ⟨rfl, hb⟩
    have HF : Hid (FrG w a3 [(ba, MoBox ta n tc)] [fun W => PtF W ta n K A N F]) := HF.out.call hb
    clear hb
    go_wp2_with fail
    go_ret
    exact ⟨rfl, HF.out.1⟩
end Go.Proofs.Ytggiklghcnojiaa
