
/- root's updated of a root and a row that may be. (Written by mkrtf.py.) -/
import Derived.Test.YthakhmnlpmfdgaaP35
import Derived.Test.YthakhmnlpmfdgaaP29
namespace Go.Proofs.Ythakhmnlpmfdgaa
open Go.RowKit Go.IntWalk

def StBox (a b c : Nat) (s : Option Addr) (k l : Nat) : Obj := .cells #[.float .f64 a, .float .f64 b, .float .f64 c, .slice s k l] 45
theorem scells_of {w : World} {t a b c : Nat} {s : Option Addr} {k l : Nat} (h : w.heap[t]? = some (StBox a b c s k l)) : w.cell? ⟨t, 0, none⟩ = some (.float .f64 a) ∧ w.cell? ⟨t, 1, none⟩ = some (.float .f64 b) ∧ w.cell? ⟨t, 2, none⟩ = some (.float .f64 c) ∧ w.cell? ⟨t, 3, none⟩ = some (.slice s k l) := by
  unfold StBox at h
  refine ⟨?_, ?_, ?_, ?_⟩ <;> simp [World.cell?, h]
theorem sfrz {w : World} {t a b c : Nat} {s : Option Addr} {k l : Nat} (h : w.heap[t]? = some (StBox a b c s k l)) (o : Nat) : w.frozen? ⟨t, o, none⟩ = false := by
  unfold StBox at h
  simp [World.frozen?, h]
theorem rfrz {w : World} {b : Nat} {xa : Option Addr} {k kx : Nat} {r c : Int} {sa : Option Addr} {n ka : Nat} (h : w.heap[b]? = some (RBox xa k kx r c sa n ka)) (o : Nat) : w.frozen? ⟨b, o, none⟩ = false := by
  unfold RBox at h
  simp [World.frozen?, h]
theorem rsto_below {w W : World} {B q : Nat} (h : Below B w W) (hq : B ≤ q) (a b c d : Value) : Below B w ((((W.setCell ⟨q, 0, none⟩ a).setCell ⟨q, 1, none⟩ b).setCell ⟨q, 2, none⟩ c).setCell ⟨q, 3, none⟩ d) := (((h.setCell (p := ⟨q, 0, none⟩) hq _).setCell (p := ⟨q, 1, none⟩) hq _).setCell (p := ⟨q, 2, none⟩) hq _).setCell (p := ⟨q, 3, none⟩) hq _
theorem ssto_below {w W : World} {B q : Nat} (h : Below B w W) (hq : B ≤ q) (a b c d : Value) : Below B w ((((W.setCell ⟨q, 0, none⟩ a).setCell ⟨q, 1, none⟩ b).setCell ⟨q, 2, none⟩ c).setCell ⟨q, 3, none⟩ d) := rsto_below h hq a b c d
theorem forE_five {n : Nat} {f : Nat → Nat} {hs zs : List Nat} {x : Nat} (h : ¬ forE n f hs zs x = 0) : forE n f hs zs x = 5 := by
  unfold forE at h ⊢
  by_cases c : (finF n (alV f hs n) && finB (dotW hs zs n) && finB (sumA (alV f hs n) x n n)) = true
  · rw [if_pos c] at h; exact absurd rfl h
  · rw [if_neg c]
theorem fn_some {W : World} {s : Option Addr} {k l : Nat} {o : Nat → Nat} (h : FnM W s k l o) (hk : k ≠ 0) : ∃ b off, s = some ⟨b, off, none⟩ ∧ b < W.heap.size ∧ ∀ j, j < k → W.cell? ⟨b, off + j, none⟩ = some (.float .f64 (o j)) ∧ o j < 18446744073709551616 := by
  rcases h with ⟨_, h, _⟩ | ⟨b, off, h1, h2, _, _, h⟩
  · exact absurd h hk
  · exact ⟨b, off, h1, h2, h⟩
theorem forE_zero {n : Nat} {f : Nat → Nat} {hs zs : List Nat} {x : Nat} (h : forE n f hs zs x = 0) : finF n (alV f hs n) = true ∧ finB (dotW hs zs n) = true ∧ finB (sumA (alV f hs n) x n n) = true := by
  unfold forE at h
  by_cases c : (finF n (alV f hs n) && finB (dotW hs zs n) && finB (sumA (alV f hs n) x n n)) = true
  · simpa [Bool.and_eq_true, and_assoc] using c
  · rw [if_neg c] at h; exact absurd h (by decide)
theorem al_fin {n : Nat} {f : Nat → Nat} {hs zs : List Nat} {x : Nat} {W : World} {s : Option Addr} {l : Nat} {o : Nat → Nat} (h : forE n f hs zs x = 0) (hf : FnM W s n l o) (hc : ∀ i, i < n → canonOf (o i) = alV f hs n i) : ∀ i, i < n → alV f hs n i < 18446744073709551616 ∧ alV f hs n i % 9223372036854775808 < 9218868437227405312 := fun i hi => by
  have h1 := (forE_zero h).1
  rw [finF_iff] at h1
  have h2 := h1 i hi
  have h3 : finB (alV f hs n i) = true := by rw [← fin_sgl]; unfold finM; simp [h2]
  refine ⟨?_, fin_of h3⟩
  rw [← hc i hi]
  obtain ⟨_, _, _, _, h4⟩ := fn_some hf (by omega)
  exact canon_lt (h4 i hi).2
theorem dotW_lt {n : Nat} {f : Nat → Nat} {hs zs : List Nat} {x : Nat} (_ : forE n f hs zs x = 0) : dotW hs zs n < 18446744073709551616 := by
  unfold dotW
  cases n with
  | zero => show (0 : Nat) < _; decide
  | succ n => exact caf_lt .add ok_a _ _
theorem FnM.rsto {W : World} {b n cap q : Nat} {f : Nat → Nat} (h : FnM W (some ⟨b, 0, none⟩) n cap f) (hb : b ≠ q) (x y z u : Value) : FnM ((((W.setCell ⟨q, 0, none⟩ x).setCell ⟨q, 1, none⟩ y).setCell ⟨q, 2, none⟩ z).setCell ⟨q, 3, none⟩ u) (some ⟨b, 0, none⟩) n cap f := by
  rcases h with ⟨h, _⟩ | ⟨b', off, e, h1, h2, h3, h4⟩
  · cases h
  · cases e
    refine Or.inr ⟨b, 0, rfl, by simpa [World.setCell] using h1, h2, h3, fun j hj => ⟨?_, (h4 j hj).2⟩⟩
    refine (World.cell?_of_block ?_).trans (h4 j hj).1
    show _ = W.heap[b]?
    rw [set_keepM hb, set_keepM hb, set_keepM hb, set_keepM hb]
theorem lo_diag {n : Nat} {lo v : Nat → Nat} (hc : ∀ k, k < n * n → canonOf (lo k) = v k) (hf : finF (n * n) lo = true) : diagB n lo = diagB n v := by
  rw [finF_iff] at hf
  rw [Bool.eq_iff_iff, diag_iff, diag_iff]
  have e : ∀ i, i < n → lo (i * n + i) = v (i * n + i) := fun i hi => by
    have h1 := hf _ (place_lt hi hi)
    have h2 : finB (lo (i * n + i)) = true := by rw [← fin_sgl]; unfold finM; simp [h1]
    rw [← hc _ (place_lt hi hi), canon_fin h2]
  constructor
  · intro h i hi; rw [← e i hi]; exact h i hi
  · intro h i hi; rw [e i hi]; exact h i hi
theorem refRow_any (E : Int) (w : World) : Calls Try.prog 31 #[.int .i64 E] w fun e w' => e = .returned (.tuple #[.agg #[.slice none 0 0, .int .i64 0, .int .i64 0, .slice none 0 0], .agg #[.float .f64 0, .float .f64 0, .float .f64 0, .slice none 0 0], .int .i64 E]) ∧ Below w.heap.size w w' := by
  have hst := fstoreM
  go_enter Try.func31, Try.ntmps31
  go_wp2_with fail
  exact bodyPost_ret (v := .tuple #[.agg #[.slice none 0 0, .int .i64 0, .int .i64 0, .slice none 0 0], .agg #[.float .f64 0, .float .f64 0, .float .f64 0, .slice none 0 0], .int .i64 E]) (by simp [results, Try.results31, go_sem]) rfl ⟨rfl, ((Below.refl _ _).alloc (Nat.le_refl _) _).alloc (by simp) _⟩
/-- What an update is told of, by canonical numbers. -/
def yU (hs zs : List Nat) (n z : Nat) : Nat := caf .sub (canonOf z) (canonOf (dotW hs zs n))
def sU (f : Nat → Nat) (hs : List Nat) (n x : Nat) (j : Nat) : Nat := sumA (alV f hs n) x n (n - j)
def gU (f : Nat → Nat) (hs : List Nat) (n x i : Nat) : Nat := caf .quo (wC f (alV f hs n) n n i) (canonOf (sU f hs n x 0))
def xU (f : Nat → Nat) (hs zs : List Nat) (n x z i : Nat) : Nat := caf .add (canonOf (zs.getD i 0)) (caf .mul (gU f hs n x i) (yU hs zs n z))
def scU (f : Nat → Nat) (hs zs : List Nat) (n x z : Nat) : Nat := caf .quo (caf .mul (yU hs zs n z) (yU hs zs n z)) (canonOf (sU f hs n x 0))
def oU (f : Nat → Nat) (hs : List Nat) (n x k : Nat) : Nat := if k % n ≤ k / n then oC f (alV f hs n) (sU f hs n x) n (k / n) (k % n) else 0
def updE (f : Nat → Nat) (hs zs : List Nat) (n x z : Nat) : Int := if forE n f hs zs x = 0 then (if (finF (n * n) (oU f hs n x) && finF n (xU f hs zs n x z) && finB (scU f hs zs n x z)) = true then (if diagB n (oU f hs n x) = true then 0 else 93) else 5) else 5
def UpR (E : Int) (f : Nat → Nat) (hs zs : List Nat) (n x z B : Nat) (W : World) (e : Ending) : Prop :=
  (E = 0 ∧ ∃ (gx gl gg Y A S : Nat) (xo lo go : Nat → Nat), e = .returned (.tuple #[.agg #[.slice (some ⟨gx, 0, none⟩) n n, .int .i64 n, .int .i64 n, .slice (some ⟨gl, 0, none⟩) (n * n) (n * n)], .agg #[.float .f64 Y, .float .f64 A, .float .f64 S, .slice (some ⟨gg, 0, none⟩) n n], .int .i64 0]) ∧ B ≤ gx ∧ B ≤ gl ∧ B ≤ gg ∧ FnM W (some ⟨gx, 0, none⟩) n n xo ∧ FnM W (some ⟨gl, 0, none⟩) (n * n) (n * n) lo ∧ FnM W (some ⟨gg, 0, none⟩) n n go ∧ (∀ i, i < n → canonOf (xo i) = xU f hs zs n x z i) ∧ (∀ k, k < n * n → canonOf (lo k) = oU f hs n x k) ∧ (∀ i, i < n → canonOf (go i) = gU f hs n x i) ∧ canonOf Y = yU hs zs n z ∧ A = sU f hs n x 0 ∧ canonOf S = scU f hs zs n x z) ∨ (E ≠ 0 ∧ e = .returned (.tuple #[.agg #[.slice none 0 0, .int .i64 0, .int .i64 0, .slice none 0 0], .agg #[.float .f64 0, .float .f64 0, .float .f64 0, .slice none 0 0], .int .i64 E]))
set_option maxRecDepth 8000 in
set_option maxHeartbeats 8000000 in
theorem updated_fine (n m ka kx kh x z : Nat) (xa sa ha : Option Addr) (zs hs : List Nat) (f : Nat → Nat) (w : World) (hX : FlM w xa n kx zs) (hL : Gd w n n sa m ka f) (hH : FlM w ha n kh hs) (hx : x < 18446744073709551616) (fx : finM [x] = true) (hp1 : (FloatKind.f64.format.order x 0 == some .lt) = false) (hp2 : (FloatKind.f64.format.order x 0 == some .eq) = false) (hp : x ≤ 9218868437227405312) (hz : z < 18446744073709551616) (fzz : finM [z] = true) (fz : finM zs = true) (fh : finM hs = true) :
    Calls Try.prog 32 #[.agg #[.slice xa n kx, .int .i64 n, .int .i64 n, .slice sa m ka], .slice ha n kh, .float .f64 x, .float .f64 z] w fun e w' => UpR (updE f hs zs n x z) f hs zs n x z w.heap.size w' e ∧ Below w.heap.size w w' := by
  have HMN : Hid (m = n * n) := hL.2.2.1
  have hn := hL.1
  have HN := hid hn
  have HX := hid hX
  have HL := hid hL
  have HH := hid hH
  have HXL := hid hx
  have HPS := hid hp
  have HZL := hid hz
  have HFZ := hid fz
  have HROW := hid (fun W (hW : Below w.heap.size w W) => row_fine ha n kh hs x (n : Int) W (hH.below hW) (by omega) (by unfold lsE; rw [if_pos rfl, if_pos fh]) hx fx hp1 hp2)
  have HFOR := hid (fun W (hW : Below w.heap.size w W) => foreseen_any n m ka kx kh x xa sa ha zs hs f W (hX.below hW) (hL.below hW) (hH.below hW) hx fz fh)
  have HAF := hid (fun W sb (h : FlM W sb 1 1 [z]) => areFin_any sb 1 1 [z] W h (by decide))
  rw [fzz] at HAF
  have HREF := hid (fun E W => refRow_any E W)
  have r1 := ar_run .add ok_a
  have r2 := ar_run .sub ok_s
  have r3 := ar_run .mul ok_m
  have r4 := qu_run
  have hst := fstoreM
  have HF0 : Hid (FrQ w (((w.alloc (RBox xa n kx n n sa m ka)).alloc (RBox none 0 0 0 0 none 0 0)).alloc (StBox 0 0 0 none 0 0)) [(w.heap.size + 1 + 1, StBox 0 0 0 none 0 0), (w.heap.size + 1, RBox none 0 0 0 0 none 0 0), (w.heap.size, RBox xa n kx n n sa m ka)] []) := by
    have := (((FrQ.start w).alloc (RBox xa n kx n n sa m ka)).alloc (RBox none 0 0 0 0 none 0 0)).alloc (StBox 0 0 0 none 0 0)
    rw [show (w.alloc (RBox xa n kx n n sa m ka)).heap.size = w.heap.size + 1 from by simp, show ((w.alloc (RBox xa n kx n n sa m ka)).alloc (RBox none 0 0 0 0 none 0 0)).heap.size = w.heap.size + 1 + 1 from by simp] at this
    exact this
  obtain ⟨V, hV⟩ : ∃ t, Hid (((w.alloc (RBox xa n kx n n sa m ka)).alloc (RBox none 0 0 0 0 none 0 0)).alloc (StBox 0 0 0 none 0 0) = t) := ⟨_, rfl⟩
  obtain ⟨p0, hp0⟩ : ∃ t, Hid (w.heap.size = t) := ⟨_, rfl⟩
  obtain ⟨p1, hp1'⟩ : ∃ t, Hid (p0 + 1 = t) := ⟨_, rfl⟩
  obtain ⟨p2, hp2'⟩ : ∃ t, Hid (p1 + 1 = t) := ⟨_, rfl⟩
  rw [hV.out, hp0.out, hp1'.out, hp2'.out] at HF0
  have hV' := hV.out
  unfold RBox StBox at hV'
  have e0 := hp0.out
  have e1 := hp1'.out
  have e2 := hp2'.out
  obtain ⟨x0, x1, x2, x3⟩ := rcells_of (HF0.out.at 2 rfl : V.heap[p0]? = some (RBox xa n kx n n sa m ka))
  clear hX hL hH hx hp hz fz fh fx hp1 hp2 fzz
  by_cases h0 : forE n f hs zs x = 0
  · have H0 := hid h0
    clear h0
    go_enter Try.func32, Try.ntmps32
    go_wp2_with fail
    refine (HROW.out V HF0.out.bel).mono ?_
    rintro e w1 ⟨rfl, hb⟩
    have HF1 : Hid (FrQ w w1 [(p2, StBox 0 0 0 none 0 0), (p1, RBox none 0 0 0 0 none 0 0), (p0, RBox xa n kx n n sa m ka)] []) := HF0.out.call hb
    obtain ⟨x0, x1, x2, x3⟩ := rcells_of (HF1.out.at 2 rfl : w1.heap[p0]? = some (RBox xa n kx n n sa m ka))
    clear hb
    have hal : Below w1.heap.size w1 (w1.alloc (.cells #[.float .f64 z] 28)) := (Below.refl _ _).alloc (Nat.le_refl _) _
    have HF2 : Hid (FrQ w (w1.alloc (.cells #[.float .f64 z] 28)) [(p2, StBox 0 0 0 none 0 0), (p1, RBox none 0 0 0 0 none 0 0), (p0, RBox xa n kx n n sa m ka)] []) := HF1.out.call hal
    have HO := hid (one_fl (w := w1.alloc (.cells #[.float .f64 z] 28)) (b := w1.heap.size) HZL.out (by have h := nblkM w1 (.cells #[.float .f64 z] 28); unfold World.cell?; simp only []; rw [h]; rfl) (by simp))
    obtain ⟨V1, hV1⟩ : ∃ t, Hid (w1.alloc (.cells #[.float .f64 z] 28) = t) := ⟨_, rfl⟩
    rw [hV1.out] at HF2 HO
    have hV1' := hV1.out
    clear hal
    go_wp2_with fail
    refine (HAF.out _ _ HO.out).mono ?_
    rintro e w3 ⟨rfl, hb⟩
    have HF3 : Hid (FrQ w w3 [(p2, StBox 0 0 0 none 0 0), (p1, RBox none 0 0 0 0 none 0 0), (p0, RBox xa n kx n n sa m ka)] []) := HF2.out.call hb
    obtain ⟨x0, x1, x2, x3⟩ := rcells_of (HF3.out.at 2 rfl : w3.heap[p0]? = some (RBox xa n kx n n sa m ka))
    clear hb
    go_wp2_with fail
    rw [H0.out] at HFOR
    refine (HFOR.out w3 HF3.out.bel).mono ?_
    rintro e w4 ⟨⟨M, va, vk, vc, aa, ak, ac, rfl, hOut⟩, hb⟩
    have HF4 : Hid (FrQ w w4 [(p2, StBox 0 0 0 none 0 0), (p1, RBox none 0 0 0 0 none 0 0), (p0, RBox xa n kx n n sa m ka)] []) := HF3.out.call hb
    clear hb
    obtain ⟨_, hM, hvk, hak, o, a, hfo, hco, hfa, hca⟩ | h := hOut
    rotate_left
    · exact absurd rfl h.1
    rw [hvk, hak]
    obtain ⟨N1, hN1⟩ : ∃ t, Hid (n + 1 = t) := ⟨_, rfl⟩
    obtain ⟨NN, hNN⟩ : ∃ t, Hid (n * n = t) := ⟨_, rfl⟩
    have HMD := hid hM
    have HVF := hid (al_fin H0.out hfo hco)
    have HSR := hid (sums_raw HPS.out (fun i hi => HVF.out i hi) (fun j hj => fn_lt hfa j (by omega)) hca)
    have HCO := hid hco
    have hNz : n + 1 ≠ 0 := by omega
    obtain ⟨bs, os, haa, hbs, hsc⟩ := fn_some hfa hNz
    subst haa
    have hs0 := hsc 0 (by omega)
    have HS0 : Hid (a 0 = sU f hs n x 0 ∧ a 0 < 18446744073709551616) := ⟨(HSR.out 0 (Nat.zero_le _)).1, hs0.2⟩
    rw [Nat.add_zero] at hs0
    obtain ⟨A0, hA0⟩ : ∃ t, Hid (a 0 = t) := ⟨_, rfl⟩
    rw [hA0.out] at hs0 HS0
    have HSC := hid (And.intro hbs hs0.1)
    rw [hN1.out]
    have HFA := hid hfa
    have HFO := hid hfo
    have HF5 : Hid (FrQ w (w4.alloc (OBox M va n vc (some ⟨bs, os, none⟩) N1 ac)) [(w4.heap.size, OBox M va n vc (some ⟨bs, os, none⟩) N1 ac), (p2, StBox 0 0 0 none 0 0), (p1, RBox none 0 0 0 0 none 0 0), (p0, RBox xa n kx n n sa m ka)] []) := HF4.out.alloc _
    have hal : Below w4.heap.size w4 (w4.alloc (OBox M va n vc (some ⟨bs, os, none⟩) N1 ac)) := (Below.refl _ _).alloc (Nat.le_refl _) _
    have HCAR := hid (carlson_any n m ka vc ac M sa va (some ⟨bs, os, none⟩) f o a (w4.alloc (OBox M va n vc (some ⟨bs, os, none⟩) N1 ac)) HN.out HMN.out ((HL.out.below HF5.out.bel).2.2.2.1) (hfo.below hal) (hfa.below hal) (fun j hj => (HSR.out j hj).2))
    rw [hN1.out, hNN.out] at HCAR
    obtain ⟨V4, hV4⟩ : ∃ t, Hid (w4.alloc (OBox M va n vc (some ⟨bs, os, none⟩) N1 ac) = t) := ⟨_, rfl⟩
    obtain ⟨q, hq⟩ : ∃ t, Hid (w4.heap.size = t) := ⟨_, rfl⟩
    rw [hV4.out] at HF5 HCAR hal
    rw [hq.out] at HF5
    have hV4' := hV4.out
    unfold OBox at hV4'
    have hq' := hq.out
    have HAL := hid hal
    obtain ⟨c0, c1, c2⟩ := ocells_of (HF5.out.at 0 rfl : V4.heap[q]? = some (OBox M va n vc (some ⟨bs, os, none⟩) N1 ac))
    obtain ⟨x0, x1, x2, x3⟩ := rcells_of (HF5.out.at 3 rfl : V4.heap[p0]? = some (RBox xa n kx n n sa m ka))
    clear hM hvk hak hfo hco hfa hca hal hNz hs0 hbs hsc
    go_wp2_with fail
    refine HCAR.out.mono ?_
    rintro e w5 ⟨⟨gl, gw, lo, wo, rfl, hgl, hgw, hlo, hwo, hO, hW⟩, hb⟩
    have HF6 : Hid (FrQ w w5 [(q, OBox M va n vc (some ⟨bs, os, none⟩) N1 ac), (p2, StBox 0 0 0 none 0 0), (p1, RBox none 0 0 0 0 none 0 0), (p0, RBox xa n kx n n sa m ka)] []) := HF5.out.call hb
    have HF7 : Hid (FrQ w (w5.alloc (MBox n n (some ⟨gl, 0, none⟩) NN NN)) [(w5.heap.size, MBox n n (some ⟨gl, 0, none⟩) NN NN), (q, OBox M va n vc (some ⟨bs, os, none⟩) N1 ac), (p2, StBox 0 0 0 none 0 0), (p1, RBox none 0 0 0 0 none 0 0), (p0, RBox xa n kx n n sa m ka)] []) := HF6.out.alloc _
    have al5 : Below w5.heap.size w5 (w5.alloc (MBox n n (some ⟨gl, 0, none⟩) NN NN)) := (Below.refl _ _).alloc (Nat.le_refl _) _
    have HLO := hid (hlo.below al5)
    have HWO := hid (hwo.below al5)
    have HCO2 := hid hO
    have HCW := hid hW
    have HSC5 := hid (((HAL.out.trans (hb.mono HAL.out.size)).trans (al5.mono (Nat.le_trans HAL.out.size hb.size))).cell (p := ⟨bs, os, none⟩) HSC.out.1 |>.trans HSC.out.2)
    have HBS5 : Hid (bs < (w5.alloc (MBox n n (some ⟨gl, 0, none⟩) NN NN)).heap.size) := Nat.lt_of_lt_of_le HSC.out.1 (Nat.le_trans HAL.out.size (Nat.le_trans hb.size al5.size))
    have HGQ : Hid (V4.heap.size ≤ gl ∧ V4.heap.size ≤ gw) := ⟨hgl, hgw⟩
    have HV45 : Hid (V4.heap.size ≤ (w5.alloc (MBox n n (some ⟨gl, 0, none⟩) NN NN)).heap.size) := Nat.le_trans hb.size al5.size
    obtain ⟨V5, hV5⟩ : ∃ t, Hid (w5.alloc (MBox n n (some ⟨gl, 0, none⟩) NN NN) = t) := ⟨_, rfl⟩
    obtain ⟨ml, hml⟩ : ∃ t, Hid (w5.heap.size = t) := ⟨_, rfl⟩
    rw [hV5.out] at HF7 HLO HWO HSC5 HBS5 HV45
    rw [hml.out] at HF7
    have hV5' := hV5.out
    unfold MBox at hV5'
    have hml' := hml.out
    clear hb hgl hgw hlo hwo hO hW al5
    go_wp2_with fail
    have HKS : Hid (∀ W, Hid (Below V5.heap.size V5 W) → (W.cell? ⟨q, 0, none⟩ = some (.float .f64 M) ∧ W.cell? ⟨q, 2, none⟩ = some (.slice (some ⟨bs, os, none⟩) N1 ac) ∧ W.cell? ⟨bs, os, none⟩ = some (.float .f64 A0)) ∧ Hid (Below V5.heap.size V5 W)) := fun W hW => by
      obtain ⟨c0, c1, c2⟩ := ocells_of (blkM (HF7.out.at 1 rfl : V5.heap[q]? = some (OBox M va n vc (some ⟨bs, os, none⟩) N1 ac)) hW.out)
      exact ⟨⟨c0, c2, (hW.out.cell (p := ⟨bs, os, none⟩) HBS5.out).trans HSC5.out⟩, hW⟩
    have HQ0 : Hid (Below V5.heap.size V5 V5.drew) := (Below.refl _ _).drew
    have HQ1 : Hid (Below V5.heap.size V5 (arG .sub z M V5.drew)) := bl_ar HQ0.out _ _ _
    have b0 : (0 : Int) < (N1 : Int) := by have := hN1.out; omega
    have b00 : N1 ≠ 0 := by have := hN1.out; omega
    refine wp_region_held_drew (S := fun W => (W.cell? ⟨q, 0, none⟩ = some (.float .f64 M) ∧ W.cell? ⟨q, 2, none⟩ = some (.slice (some ⟨bs, os, none⟩) N1 ac) ∧ W.cell? ⟨bs, os, none⟩ = some (.float .f64 A0)) ∧ Hid (Below V5.heap.size V5 W)) (by kernel_rfl) (HKS.out _ HQ0) (fun hHeld => ?_)
    refine take_at 0 65 (.float .f64 z) rfl rfl (by kernel_rfl) (by kernel_rfl) (by kernel_rfl) (fun _ _ _ h => h) (Or.inl ⟨by rfl, fun w hSw => by (try dsimp only at hSw); go_simp⟩) (by assumption) ?_
    simp only [Act.put, List.setIfInBounds_toArray, List.set_cons_zero, List.set_cons_succ]
    refine take_at 1 66 (.pointer (some ⟨q, 0, none⟩)) rfl rfl (by kernel_rfl) (by kernel_rfl) (by kernel_rfl) (fun _ _ _ h => h) (Or.inl ⟨by rfl, fun w hSw => by (try dsimp only at hSw); go_simp⟩) (by assumption) ?_
    simp only [Act.put, List.setIfInBounds_toArray, List.set_cons_zero, List.set_cons_succ]
    refine take_at 2 67 (.float .f64 M) rfl rfl (by kernel_rfl) (by kernel_rfl) (by kernel_rfl) (fun _ _ _ h => h) (Or.inl ⟨by rfl, fun w hSw => by (try dsimp only at hSw); go_simp⟩) (by assumption) ?_
    simp only [Act.put, List.setIfInBounds_toArray, List.set_cons_zero, List.set_cons_succ]
    refine take_at 4 69 (.pointer (some ⟨q, 2, none⟩)) rfl rfl (by kernel_rfl) (by kernel_rfl) (by kernel_rfl) (fun _ _ _ h => h) (Or.inl ⟨by rfl, fun w hSw => by (try dsimp only at hSw); go_simp⟩) (by assumption) ?_
    simp only [Act.put, List.setIfInBounds_toArray, List.set_cons_zero, List.set_cons_succ]
    refine take_at 5 70 (.slice (some ⟨bs, os, none⟩) N1 ac) rfl rfl (by kernel_rfl) (by kernel_rfl) (by kernel_rfl) (fun _ _ _ h => h) (Or.inl ⟨by rfl, fun w hSw => by (try dsimp only at hSw); go_simp⟩) (by assumption) ?_
    simp only [Act.put, List.setIfInBounds_toArray, List.set_cons_zero, List.set_cons_succ]
    refine take_at 6 71 (.pointer (some ⟨bs, os, none⟩)) rfl rfl (by kernel_rfl) (by kernel_rfl) (by kernel_rfl) (fun _ _ _ h => h) (Or.inl ⟨by rfl, fun w hSw => by (try dsimp only at hSw); go_simp⟩) (by assumption) ?_
    simp only [Act.put, List.setIfInBounds_toArray, List.set_cons_zero, List.set_cons_succ]
    refine take_at 7 72 (.float .f64 A0) rfl rfl (by kernel_rfl) (by kernel_rfl) (by kernel_rfl) (fun _ _ _ h => h) (Or.inl ⟨by rfl, fun w hSw => by (try dsimp only at hSw); go_simp⟩) (by assumption) ?_
    simp only [Act.put, List.setIfInBounds_toArray, List.set_cons_zero, List.set_cons_succ]
    refine wpAnyH_ready (rs := [3]) (by kernel_rfl) (by simp) ?_
    refine AllReadyH.cons (o := _) rfl (fun K hK => ?_) AllReadyH.nil
    go_simp
    go_wp2_with fail
    refine hK.out _ _ (HKS.out _ HQ1) (fun hHeld1 => ?_)
    clear hK K
    try simp only [Act.put, List.setIfInBounds_toArray, List.set_cons_zero, List.set_cons_succ]
    refine take_at 8 16 (.float .f64 (arF .sub z M V5.drew)) rfl rfl (by kernel_rfl) (by kernel_rfl) (by kernel_rfl) (fun _ _ _ h => h) (Or.inl ⟨by rfl, fun w hSw => by (try dsimp only at hSw); go_simp⟩) (by assumption) ?_
    simp only [Act.put, List.setIfInBounds_toArray, List.set_cons_zero, List.set_cons_succ]
    refine take_at 9 17 (.float .f64 A0) rfl rfl (by kernel_rfl) (by kernel_rfl) (by kernel_rfl) (fun _ _ _ h => h) (Or.inl ⟨by rfl, fun w hSw => by (try dsimp only at hSw); go_simp⟩) (by assumption) ?_
    simp only [Act.put, List.setIfInBounds_toArray, List.set_cons_zero, List.set_cons_succ]
    refine wpAnyH_done (by kernel_rfl) ?_ _
    have HYC : Hid (canonOf (arF .sub z M V5.drew) = yU hs zs n z ∧ (arF .sub z M V5.drew) < 18446744073709551616) := ⟨by rw [canon_ar ok_s _ _ _ HZL.out (by rw [HMD.out]; exact dotW_lt H0.out), HMD.out]; rfl, arF_lt ok_s _ _ _⟩
    obtain ⟨Y, hY⟩ : ∃ t, Hid ((arF .sub z M V5.drew) = t) := ⟨_, rfl⟩
    obtain ⟨U1, hU1⟩ : ∃ t, Hid (arG .sub z M V5.drew = t) := ⟨_, rfl⟩
    rw [hY.out] at HYC
    rw [hU1.out] at HQ1
    have hY' := hY.out
    have hU1' := hU1.out
    rw [hY.out, hU1.out]
    have HQ2 : Hid (Below V5.heap.size V5 (arG .mul Y Y U1)) := bl_ar HQ1.out _ _ _
    have HYY : Hid (canonOf (arF .mul Y Y U1) = caf .mul (yU hs zs n z) (yU hs zs n z) ∧ arF .mul Y Y U1 < 18446744073709551616) := ⟨by rw [canon_ar ok_m _ _ _ HYC.out.2 HYC.out.2, HYC.out.1], arF_lt ok_m _ _ _⟩
    obtain ⟨YY, hYY⟩ : ∃ t, Hid (arF .mul Y Y U1 = t) := ⟨_, rfl⟩
    obtain ⟨U2, hU2⟩ : ∃ t, Hid (arG .mul Y Y U1 = t) := ⟨_, rfl⟩
    rw [hYY.out] at HYY
    rw [hU2.out] at HQ2
    have hYY' := hYY.out
    have hU2' := hU2.out
    have HQ3 : Hid (Below V5.heap.size V5 (quG YY A0 U2)) := bl_qu HQ2.out _ _
    have HSS : Hid (canonOf (quF YY A0 U2) = scU f hs zs n x z ∧ quF YY A0 U2 < 18446744073709551616) := ⟨by rw [canon_qu, quo_canon _ _ HYY.out.2 HS0.out.2, HYY.out.1, HS0.out.1]; rfl, quF_lt _ _ _⟩
    obtain ⟨SC, hSC⟩ : ∃ t, Hid (quF YY A0 U2 = t) := ⟨_, rfl⟩
    obtain ⟨U3, hU3⟩ : ∃ t, Hid (quG YY A0 U2 = t) := ⟨_, rfl⟩
    rw [hSC.out] at HSS
    rw [hU3.out] at HQ3
    have hSC' := hSC.out
    have hU3' := hU3.out
    have hmk := run_make_row' (P := Try.prog) 32 28 (.float .f64 0) 8 Try.underlying32 info_fM rfl .i64 .i64 n (by have := HN.out; omega) (by have := HN.out; omega)
    have HU3D : Hid (Below V5.heap.size V5 U3.drew) := HQ3.out.drew
    go_wp2_with fail
    refine region_merge2 (fun a0 a' w' => ∃ gg gx : Nat, a' = Act.put (Act.put (Act.put (Act.put (Act.put (Act.put (Act.put (Act.put (a0) (some 78) (.slice (some ⟨gw, 0, none⟩) n n)) (some 79) (.int .i64 n)) (some 80) (.slice (some ⟨gg, 0, none⟩) n n)) (some 81) (.slice (some ⟨gw, 0, none⟩) n n)) (some 82) (.int .i64 n)) (some 83) (.slice (some ⟨gx, 0, none⟩) n n)) (some 19) (.slice (some ⟨gg, 0, none⟩) n n)) (some 20) (.slice (some ⟨gx, 0, none⟩) n n) ∧ (w'.rowIs gg 28 n (fun _ => .float .f64 0)) ∧ (w'.rowIs gx 28 n (fun _ => .float .f64 0)) ∧ gg ≠ gx ∧ V5.heap.size ≤ gg ∧ V5.heap.size ≤ gx ∧ Below V5.heap.size V5 w') (fun HR => ?_) ?_
    · simp only [Act.put, List.setIfInBounds_toArray, List.set_cons_zero, List.set_cons_succ] at HR
      refine wp_region_held_drew (S := fun W => Hid (Below V5.heap.size V5 W)) (by kernel_rfl) HU3D (fun hHeld => ?_)
      refine take_at 0 78 (.slice (some ⟨gw, 0, none⟩) n n) rfl rfl (by kernel_rfl) (by kernel_rfl) (by kernel_rfl) (fun _ _ _ h => h) (Or.inl ⟨by rfl, fun w hSw => by (try dsimp only at hSw); go_simp⟩) (by assumption) ?_
      simp only [Act.put, List.setIfInBounds_toArray, List.set_cons_zero, List.set_cons_succ]
      refine take_at 1 79 (.int .i64 n) rfl rfl (by kernel_rfl) (by kernel_rfl) (by kernel_rfl) (fun _ _ _ h => h) (Or.inl ⟨by rfl, fun w hSw => by (try dsimp only at hSw); go_simp⟩) (by assumption) ?_
      simp only [Act.put, List.setIfInBounds_toArray, List.set_cons_zero, List.set_cons_succ]
      refine take_at 3 81 (.slice (some ⟨gw, 0, none⟩) n n) rfl rfl (by kernel_rfl) (by kernel_rfl) (by kernel_rfl) (fun _ _ _ h => h) (Or.inl ⟨by rfl, fun w hSw => by (try dsimp only at hSw); go_simp⟩) (by assumption) ?_
      simp only [Act.put, List.setIfInBounds_toArray, List.set_cons_zero, List.set_cons_succ]
      refine take_at 4 82 (.int .i64 n) rfl rfl (by kernel_rfl) (by kernel_rfl) (by kernel_rfl) (fun _ _ _ h => h) (Or.inl ⟨by rfl, fun w hSw => by (try dsimp only at hSw); go_simp⟩) (by assumption) ?_
      simp only [Act.put, List.setIfInBounds_toArray, List.set_cons_zero, List.set_cons_succ]
      refine wpAnyH_ready (rs := [2, 5]) (by kernel_rfl) (by simp) ?_
      refine AllReadyH.cons (o := _) rfl (fun K hK => ?_) (AllReadyH.cons (o := _) rfl (fun K hK => ?_) AllReadyH.nil)
      · have al1 : Below U3.drew.heap.size U3.drew (U3.drew.alloc (.cells (madeCells #[.float .f64 0] n) 28)) := (Below.refl _ _).alloc (Nat.le_refl _) _
        have HA1 : Hid (Below V5.heap.size V5 (U3.drew.alloc (.cells (madeCells #[.float .f64 0] n) 28))) := HU3D.out.trans (al1.mono HU3D.out.size)
        have HR1 := hid (World.rowIs_made U3.drew (.float .f64 0) n 28)
        go_simp
        go_wp2_with fail
        refine hK.out _ _ HA1 (fun hHeld1 => ?_)
        clear hK K
        try simp only [Act.put, List.setIfInBounds_toArray, List.set_cons_zero, List.set_cons_succ]
        obtain ⟨T1, hT1⟩ : ∃ t, Hid (U3.drew.alloc (.cells (madeCells #[.float .f64 0] n) 28) = t) := ⟨_, rfl⟩
        obtain ⟨g1, hg1⟩ : ∃ t, Hid (U3.drew.heap.size = t) := ⟨_, rfl⟩
        rw [hT1.out] at al1 HA1 HR1
        rw [hg1.out] at HR1
        have hT1' : (U3.alloc (.cells (madeCells #[.float .f64 0] n) 28)).drew = T1 := hT1.out
        have hg1' : U3.heap.size = g1 := hg1.out
        try rw [hT1']
        try rw [hT1.out]
        try rw [hg1']
        try rw [hg1.out]
        refine take_at 6 19 (.slice (some ⟨g1, 0, none⟩) n n) rfl rfl (by kernel_rfl) (by kernel_rfl) (by kernel_rfl) (fun _ _ _ h => h) (Or.inl ⟨by rfl, fun w hSw => by (try dsimp only at hSw); go_simp⟩) (by assumption) ?_
        simp only [Act.put, List.setIfInBounds_toArray, List.set_cons_zero, List.set_cons_succ]
        refine wpAnyH_ready (rs := [5]) (by kernel_rfl) (by simp) ?_
        refine AllReadyH.cons (o := _) rfl (fun K hK => ?_) AllReadyH.nil
        have al2 : Below T1.heap.size T1 (T1.alloc (.cells (madeCells #[.float .f64 0] n) 28)) := (Below.refl _ _).alloc (Nat.le_refl _) _
        have HA2 : Hid (Below V5.heap.size V5 (T1.alloc (.cells (madeCells #[.float .f64 0] n) 28))) := HA1.out.trans (al2.mono HA1.out.size)
        have HR2 := hid (World.rowIs_made T1 (.float .f64 0) n 28)
        go_simp
        go_wp2_with fail
        refine hK.out _ _ HA2 (fun hHeld2 => ?_)
        clear hK K
        try simp only [Act.put, List.setIfInBounds_toArray, List.set_cons_zero, List.set_cons_succ]
        refine take_at 7 20 (.slice (some ⟨T1.heap.size, 0, none⟩) n n) rfl rfl (by kernel_rfl) (by kernel_rfl) (by kernel_rfl) (fun _ _ _ h => h) (Or.inl ⟨by rfl, fun w hSw => by (try dsimp only at hSw); go_simp⟩) (by assumption) ?_
        simp only [Act.put, List.setIfInBounds_toArray, List.set_cons_zero, List.set_cons_succ]
        refine wpAnyH_done (by kernel_rfl) ?_ _
        have hl1 := HR1.out.lt
        have hs1 : V5.heap.size ≤ g1 := by rw [← hg1.out]; exact HU3D.out.size
        have hs2 := HA1.out.size
        exact HR.out _ _ ⟨g1, T1.heap.size, rfl, HR1.out.of_block (al2.block _ hl1), HR2.out, by omega, hs1, hs2, HA2.out⟩
      · have al1 : Below U3.drew.heap.size U3.drew (U3.drew.alloc (.cells (madeCells #[.float .f64 0] n) 28)) := (Below.refl _ _).alloc (Nat.le_refl _) _
        have HA1 : Hid (Below V5.heap.size V5 (U3.drew.alloc (.cells (madeCells #[.float .f64 0] n) 28))) := HU3D.out.trans (al1.mono HU3D.out.size)
        have HR1 := hid (World.rowIs_made U3.drew (.float .f64 0) n 28)
        go_simp
        go_wp2_with fail
        refine hK.out _ _ HA1 (fun hHeld1 => ?_)
        clear hK K
        try simp only [Act.put, List.setIfInBounds_toArray, List.set_cons_zero, List.set_cons_succ]
        obtain ⟨T1, hT1⟩ : ∃ t, Hid (U3.drew.alloc (.cells (madeCells #[.float .f64 0] n) 28) = t) := ⟨_, rfl⟩
        obtain ⟨g1, hg1⟩ : ∃ t, Hid (U3.drew.heap.size = t) := ⟨_, rfl⟩
        rw [hT1.out] at al1 HA1 HR1
        rw [hg1.out] at HR1
        have hT1' : (U3.alloc (.cells (madeCells #[.float .f64 0] n) 28)).drew = T1 := hT1.out
        have hg1' : U3.heap.size = g1 := hg1.out
        try rw [hT1']
        try rw [hT1.out]
        try rw [hg1']
        try rw [hg1.out]
        refine wpAnyH_ready (rs := [2]) (by kernel_rfl) (by simp) ?_
        refine AllReadyH.cons (o := _) rfl (fun K hK => ?_) AllReadyH.nil
        have al2 : Below T1.heap.size T1 (T1.alloc (.cells (madeCells #[.float .f64 0] n) 28)) := (Below.refl _ _).alloc (Nat.le_refl _) _
        have HA2 : Hid (Below V5.heap.size V5 (T1.alloc (.cells (madeCells #[.float .f64 0] n) 28))) := HA1.out.trans (al2.mono HA1.out.size)
        have HR2 := hid (World.rowIs_made T1 (.float .f64 0) n 28)
        go_simp
        go_wp2_with fail
        refine hK.out _ _ HA2 (fun hHeld2 => ?_)
        clear hK K
        try simp only [Act.put, List.setIfInBounds_toArray, List.set_cons_zero, List.set_cons_succ]
        refine take_at 6 19 (.slice (some ⟨T1.heap.size, 0, none⟩) n n) rfl rfl (by kernel_rfl) (by kernel_rfl) (by kernel_rfl) (fun _ _ _ h => h) (Or.inl ⟨by rfl, fun w hSw => by (try dsimp only at hSw); go_simp⟩) (by assumption) ?_
        simp only [Act.put, List.setIfInBounds_toArray, List.set_cons_zero, List.set_cons_succ]
        refine take_at 7 20 (.slice (some ⟨g1, 0, none⟩) n n) rfl rfl (by kernel_rfl) (by kernel_rfl) (by kernel_rfl) (fun _ _ _ h => h) (Or.inl ⟨by rfl, fun w hSw => by (try dsimp only at hSw); go_simp⟩) (by assumption) ?_
        simp only [Act.put, List.setIfInBounds_toArray, List.set_cons_zero, List.set_cons_succ]
        refine wpAnyH_done (by kernel_rfl) ?_ _
        have hl1 := HR1.out.lt
        have hs1 : V5.heap.size ≤ g1 := by rw [← hg1.out]; exact HU3D.out.size
        have hs2 := HA1.out.size
        exact HR.out _ _ ⟨T1.heap.size, g1, rfl, HR2.out, HR1.out.of_block (al2.block _ hl1), by omega, hs2, hs1, HA2.out⟩
    · rintro a' w6 ⟨gg, gx, rfl, hrg, hrx, hne, hgg, hgx, hb6⟩
      simp only [Act.put, List.setIfInBounds_toArray, List.set_cons_zero, List.set_cons_succ]
      have HRG := hid hrg
      have HRX := hid hrx
      have HB6 := hid hb6
      have HNX : Hid (gg ≠ gx ∧ V5.heap.size ≤ gg ∧ V5.heap.size ≤ gx) := ⟨hne, hgg, hgx⟩
      clear hrg hrx hne hgg hgx hb6 hmk HU3D
      go_wp2_with fail
      go_loopw [86] (fun iv wr => ∃ (i : Nat) (go xo : Nat → Nat), i ≤ n ∧ iv = .int .i64 i ∧ Hid (wr.rowIs gg 28 n (fun t => .float .f64 (go t))) ∧ Hid (wr.rowIs gx 28 n (fun t => .float .f64 (xo t))) ∧ Hid (∀ t, t < n → go t < 18446744073709551616 ∧ (t < i → canonOf (go t) = gU f hs n x t)) ∧ Hid (∀ t, t < n → xo t < 18446744073709551616 ∧ (t < i → canonOf (xo t) = xU f hs zs n x z t)) ∧ Hid (Below V5.heap.size V5 wr)) (fun iv _ => n - (intOf iv).toNat)
      case atStart => exact ⟨0, fun _ => 0, fun _ => 0, Nat.zero_le _, rfl, HRG, HRX, fun t _ => ⟨by show (0 : Nat) < _; decide, fun h => absurd h (Nat.not_lt_zero _)⟩, fun t _ => ⟨by show (0 : Nat) < _; decide, fun h => absurd h (Nat.not_lt_zero _)⟩, HB6⟩
      case round =>
        obtain ⟨i, go, xo, hi, rfl, HG, HXO, HPG, HPX, HBW⟩ := hrel
        by_cases hlt : i < n
        · have hn12 := HN.out
          have HI := hid hlt
          have hiI : (i : Int) < (n : Int) := by omega
          have hi0 : (0 : Int) ≤ (i : Int) := by omega
          have wi1 : IntKind.i64.wrap ((i : Int) + 1) = (i : Int) + 1 := IntWalk.i64_in _ (by omega)
          obtain ⟨bw, ow, ew, hbw, hwc⟩ := fn_some HWO.out (by omega)
          cases ew
          have hwi := hwc i hlt
          rw [Nat.zero_add] at hwi
          have hcw := (HCW.out i hlt).2
          rw [if_neg (Nat.not_lt_zero _), wC_congr (v1 := alV f hs n) (fun k hk => by rw [← HCO.out k hk, canon_twice]) n i (Nat.le_refl _)] at hcw
          obtain ⟨bx, ox, ex, hbx, hxc⟩ := fn_some (HX.out.fn) (by omega)
          subst ex
          have hxi := hxc i hlt
          obtain ⟨wi, hwi2⟩ : ∃ t, Hid (wo i = t) := ⟨_, rfl⟩
          rw [hwi2.out] at hwi hcw
          obtain ⟨X, hX⟩ : ∃ t, Hid (zs.getD i 0 = t) := ⟨_, rfl⟩
          rw [hX.out] at hxi
          have cw := (HBW.out.cell (p := ⟨gw, i, none⟩) hbw).trans hwi.1
          have HXC := hid (And.intro hbx hxi)
          have HWL := hid (And.intro hwi.2 hcw)
          have HGQ : Hid (canonOf (quF wi A0 wr) = gU f hs n x i ∧ quF wi A0 wr < 18446744073709551616) := ⟨by rw [canon_qu, quo_canon _ _ HWL.out.1 HS0.out.2, HWL.out.2, HS0.out.1]; rfl, quF_lt _ _ _⟩
          have b1 : Hid (Below V5.heap.size V5 (quG wi A0 wr)) := bl_qu HBW.out _ _
          have HG1 : Hid ((quG wi A0 wr).rowIs gg 28 n (fun t => .float .f64 (go t))) := HG.out.of_block (by rw [quG_heap])
          have HX1 : Hid ((quG wi A0 wr).rowIs gx 28 n (fun t => .float .f64 (xo t))) := HXO.out.of_block (by rw [quG_heap])
          obtain ⟨ga, hga⟩ : ∃ t, Hid (quF wi A0 wr = t) := ⟨_, rfl⟩
          obtain ⟨G1, hG1⟩ : ∃ t, Hid (quG wi A0 wr = t) := ⟨_, rfl⟩
          rw [hga.out] at HGQ
          rw [hG1.out] at b1 HG1 HX1
          have hga' := hga.out
          have hG1' := hG1.out
          have c1 := HG1.out.cell hlt
          have f1 := HG1.out.frozen i
          have HG2 := hid (HG1.out.set i (.float .f64 ga))
          have HX2 := hid (HX1.out.setOther (a := ⟨gg, i, none⟩) (fun h => HNX.out.1 h.symm) (.float .f64 ga))
          have b2 : Hid (Below V5.heap.size V5 (G1.setCell ⟨gg, i, none⟩ (.float .f64 ga))) := b1.out.setCell (p := ⟨gg, i, none⟩) HNX.out.2.1 _
          obtain ⟨W1, hW1⟩ : ∃ t, Hid (G1.setCell ⟨gg, i, none⟩ (.float .f64 ga) = t) := ⟨_, rfl⟩
          rw [hW1.out] at HG2 HX2 b2
          have hW1' := hW1.out
          have gi := HG2.out.cell hlt
          rw [if_pos rfl] at gi
          have HKS2 : Hid (∀ W, Hid (Below V5.heap.size V5 W ∧ W.cell? ⟨gg, i, none⟩ = some (.float .f64 ga)) → (W.cell? ⟨p0, 0, none⟩ = some (.slice (some ⟨bx, ox, none⟩) n kx) ∧ W.cell? ⟨bx, ox + i, none⟩ = some (.float .f64 X) ∧ W.cell? ⟨gg, i, none⟩ = some (.float .f64 ga)) ∧ Hid (Below V5.heap.size V5 W ∧ W.cell? ⟨gg, i, none⟩ = some (.float .f64 ga))) := fun W hW => by
            obtain ⟨x0, x1, x2, x3⟩ := rcells_of (blkM (HF7.out.at 4 rfl : V5.heap[p0]? = some (RBox (some ⟨bx, ox, none⟩) n kx n n sa m ka)) hW.out.1)
            exact ⟨⟨x0, ((HF7.out.bel.trans (hW.out.1.mono HF7.out.bel.size)).cell (p := ⟨bx, ox + i, none⟩) HXC.out.1).trans HXC.out.2.1, hW.out.2⟩, hW⟩
          have q0 : Hid (Below V5.heap.size V5 W1.drew ∧ W1.drew.cell? ⟨gg, i, none⟩ = some (.float .f64 ga)) := ⟨b2.out.drew, gi⟩
          have q1 : Hid (Below V5.heap.size V5 (arG .mul ga Y W1.drew) ∧ (arG .mul ga Y W1.drew).cell? ⟨gg, i, none⟩ = some (.float .f64 ga)) := ⟨bl_ar q0.out.1 _ _ _, (World.cell?_of_block (by rw [arG_heap])).trans q0.out.2⟩
          clear hbw hwc hwi hcw hbx hxc hxi gi
          go_wp2_with fail
          refine wp_region_held_drew (S := fun W => (W.cell? ⟨p0, 0, none⟩ = some (.slice (some ⟨bx, ox, none⟩) n kx) ∧ W.cell? ⟨bx, ox + i, none⟩ = some (.float .f64 X) ∧ W.cell? ⟨gg, i, none⟩ = some (.float .f64 ga)) ∧ Hid (Below V5.heap.size V5 W ∧ W.cell? ⟨gg, i, none⟩ = some (.float .f64 ga))) (by kernel_rfl) (HKS2.out _ q0) (fun hHeld => ?_)
          refine take_at 0 98 (.slice (some ⟨gx, 0, none⟩) n n) rfl rfl (by kernel_rfl) (by kernel_rfl) (by kernel_rfl) (fun _ _ _ h => h) (Or.inl ⟨by rfl, fun w hSw => by (try dsimp only at hSw); go_simp⟩) (by assumption) ?_
          simp only [Act.put, List.setIfInBounds_toArray, List.set_cons_zero, List.set_cons_succ]
          refine take_at 1 99 (.int .i64 i) rfl rfl (by kernel_rfl) (by kernel_rfl) (by kernel_rfl) (fun _ _ _ h => h) (Or.inl ⟨by rfl, fun w hSw => by (try dsimp only at hSw); go_simp⟩) (by assumption) ?_
          simp only [Act.put, List.setIfInBounds_toArray, List.set_cons_zero, List.set_cons_succ]
          refine take_at 2 100 (.pointer (some ⟨p0, 0, none⟩)) rfl rfl (by kernel_rfl) (by kernel_rfl) (by kernel_rfl) (fun _ _ _ h => h) (Or.inl ⟨by rfl, fun w hSw => by (try dsimp only at hSw); go_simp⟩) (by assumption) ?_
          simp only [Act.put, List.setIfInBounds_toArray, List.set_cons_zero, List.set_cons_succ]
          refine take_at 3 101 (.slice (some ⟨bx, ox, none⟩) n kx) rfl rfl (by kernel_rfl) (by kernel_rfl) (by kernel_rfl) (fun _ _ _ h => h) (Or.inl ⟨by rfl, fun w hSw => by (try dsimp only at hSw); go_simp⟩) (by assumption) ?_
          simp only [Act.put, List.setIfInBounds_toArray, List.set_cons_zero, List.set_cons_succ]
          refine take_at 4 102 (.int .i64 i) rfl rfl (by kernel_rfl) (by kernel_rfl) (by kernel_rfl) (fun _ _ _ h => h) (Or.inl ⟨by rfl, fun w hSw => by (try dsimp only at hSw); go_simp⟩) (by assumption) ?_
          simp only [Act.put, List.setIfInBounds_toArray, List.set_cons_zero, List.set_cons_succ]
          refine take_at 5 103 (.pointer (some ⟨bx, ox + i, none⟩)) rfl rfl (by kernel_rfl) (by kernel_rfl) (by kernel_rfl) (fun _ _ _ h => h) (Or.inl ⟨by rfl, fun w hSw => by (try dsimp only at hSw); go_simp⟩) (by assumption) ?_
          simp only [Act.put, List.setIfInBounds_toArray, List.set_cons_zero, List.set_cons_succ]
          refine take_at 6 104 (.float .f64 X) rfl rfl (by kernel_rfl) (by kernel_rfl) (by kernel_rfl) (fun _ _ _ h => h) (Or.inl ⟨by rfl, fun w hSw => by (try dsimp only at hSw); go_simp⟩) (by assumption) ?_
          simp only [Act.put, List.setIfInBounds_toArray, List.set_cons_zero, List.set_cons_succ]
          refine take_at 7 105 (.slice (some ⟨gg, 0, none⟩) n n) rfl rfl (by kernel_rfl) (by kernel_rfl) (by kernel_rfl) (fun _ _ _ h => h) (Or.inl ⟨by rfl, fun w hSw => by (try dsimp only at hSw); go_simp⟩) (by assumption) ?_
          simp only [Act.put, List.setIfInBounds_toArray, List.set_cons_zero, List.set_cons_succ]
          refine take_at 8 106 (.int .i64 i) rfl rfl (by kernel_rfl) (by kernel_rfl) (by kernel_rfl) (fun _ _ _ h => h) (Or.inl ⟨by rfl, fun w hSw => by (try dsimp only at hSw); go_simp⟩) (by assumption) ?_
          simp only [Act.put, List.setIfInBounds_toArray, List.set_cons_zero, List.set_cons_succ]
          refine take_at 9 107 (.pointer (some ⟨gg, i, none⟩)) rfl rfl (by kernel_rfl) (by kernel_rfl) (by kernel_rfl) (fun _ _ _ h => h) (Or.inl ⟨by rfl, fun w hSw => by (try dsimp only at hSw); go_simp⟩) (by assumption) ?_
          simp only [Act.put, List.setIfInBounds_toArray, List.set_cons_zero, List.set_cons_succ]
          refine take_at 10 108 (.float .f64 ga) rfl rfl (by kernel_rfl) (by kernel_rfl) (by kernel_rfl) (fun _ _ _ h => h) (Or.inl ⟨by rfl, fun w hSw => by (try dsimp only at hSw); go_simp⟩) (by assumption) ?_
          simp only [Act.put, List.setIfInBounds_toArray, List.set_cons_zero, List.set_cons_succ]
          refine take_at 11 109 (.float .f64 Y) rfl rfl (by kernel_rfl) (by kernel_rfl) (by kernel_rfl) (fun _ _ _ h => h) (Or.inl ⟨by rfl, fun w hSw => by (try dsimp only at hSw); go_simp⟩) (by assumption) ?_
          simp only [Act.put, List.setIfInBounds_toArray, List.set_cons_zero, List.set_cons_succ]
          have q2 : Hid (Below V5.heap.size V5 (arG .add X (arF .mul ga Y W1.drew) (arG .mul ga Y W1.drew)) ∧ (arG .add X (arF .mul ga Y W1.drew) (arG .mul ga Y W1.drew)).cell? ⟨gg, i, none⟩ = some (.float .f64 ga)) := ⟨bl_ar q1.out.1 _ _ _, (World.cell?_of_block (by rw [arG_heap])).trans q1.out.2⟩
          have HZ : Hid (canonOf (arF .add X (arF .mul ga Y W1.drew) (arG .mul ga Y W1.drew)) = xU f hs zs n x z i ∧ (arF .add X (arF .mul ga Y W1.drew) (arG .mul ga Y W1.drew)) < 18446744073709551616) := ⟨by rw [canon_ar ok_a _ _ _ HXC.out.2.2 (arF_lt ok_m _ _ _), canon_ar ok_m _ _ _ HGQ.out.2 HYC.out.2, HGQ.out.1, HYC.out.1, ← hX.out]; rfl, arF_lt ok_a _ _ _⟩
          have HX3 : Hid ((arG .add X (arF .mul ga Y W1.drew) (arG .mul ga Y W1.drew)).rowIs gx 28 n (fun t => .float .f64 (xo t))) := HX2.out.of_block (by rw [arG_heap, arG_heap]; rfl)
          have HG3 : Hid ((arG .add X (arF .mul ga Y W1.drew) (arG .mul ga Y W1.drew)).rowIs gg 28 n (fun t => if t = i then .float .f64 ga else .float .f64 (go t))) := HG2.out.of_block (by rw [arG_heap, arG_heap]; rfl)
          have c2 := HX3.out.cell HI.out
          have f2 := HX3.out.frozen i
          have HX4 := hid (HX3.out.set i (.float .f64 (arF .add X (arF .mul ga Y W1.drew) (arG .mul ga Y W1.drew))))
          have HG4 := hid (HG3.out.setOther (a := ⟨gx, i, none⟩) HNX.out.1 (.float .f64 (arF .add X (arF .mul ga Y W1.drew) (arG .mul ga Y W1.drew))))
          have q3 : Hid (Below V5.heap.size V5 ((arG .add X (arF .mul ga Y W1.drew) (arG .mul ga Y W1.drew)).setCell ⟨gx, i, none⟩ (.float .f64 (arF .add X (arF .mul ga Y W1.drew) (arG .mul ga Y W1.drew)))) ∧ ((arG .add X (arF .mul ga Y W1.drew) (arG .mul ga Y W1.drew)).setCell ⟨gx, i, none⟩ (.float .f64 (arF .add X (arF .mul ga Y W1.drew) (arG .mul ga Y W1.drew)))).cell? ⟨gg, i, none⟩ = some (.float .f64 ga)) := ⟨q2.out.1.setCell (p := ⟨gx, i, none⟩) HNX.out.2.2 _, by have := HG4.out.cell HI.out; rw [if_pos rfl] at this; exact this⟩
          refine wpAnyH_ready (rs := [12]) (by kernel_rfl) (by simp) ?_
          refine AllReadyH.cons (o := _) rfl (fun K hK => ?_) AllReadyH.nil
          go_simp
          go_wp2_with fail
          refine hK.out _ _ (HKS2.out _ q1) (fun hHeld1 => ?_)
          clear hK K
          try simp only [Act.put, List.setIfInBounds_toArray, List.set_cons_zero, List.set_cons_succ]
          refine wpAnyH_ready (rs := [13]) (by kernel_rfl) (by simp) ?_
          refine AllReadyH.cons (o := _) rfl (fun K hK => ?_) AllReadyH.nil
          go_simp
          go_wp2_with fail
          refine hK.out _ _ (HKS2.out _ q2) (fun hHeld2 => ?_)
          clear hK K
          try simp only [Act.put, List.setIfInBounds_toArray, List.set_cons_zero, List.set_cons_succ]
          refine take_at 14 112 (.pointer (some ⟨gx, i, none⟩)) rfl rfl (by kernel_rfl) (by kernel_rfl) (by kernel_rfl) (fun _ _ _ h => h) (Or.inl ⟨by rfl, fun w hSw => by (try dsimp only at hSw); go_simp⟩) (by assumption) ?_
          simp only [Act.put, List.setIfInBounds_toArray, List.set_cons_zero, List.set_cons_succ]
          refine wpAnyH_ready (rs := [15]) (by kernel_rfl) (by simp) ?_
          refine AllReadyH.cons (o := _) rfl (fun K hK => ?_) AllReadyH.nil
          go_simp
          go_wp2_with fail
          refine hK.out _ _ (HKS2.out _ q3) (fun hHeld3 => ?_)
          clear hK K
          try simp only [Act.put, List.setIfInBounds_toArray, List.set_cons_zero, List.set_cons_succ]
          refine wpAnyH_done (by kernel_rfl) ?_ _
          go_wp2_with fail
          refine ⟨⟨i + 1, fun t => if t = i then ga else go t, fun t => if t = i then (arF .add X (arF .mul ga Y W1.drew) (arG .mul ga Y W1.drew)) else xo t, by have := HI.out; omega, by go_num, HG4.out.congr (fun t _ => ?_), HX4.out.congr (fun t _ => ?_), fun t ht => ?_, fun t ht => ?_, q3.out.1⟩, ?_⟩
          · by_cases h : t = i <;> simp [h]
          · by_cases h : t = i <;> simp [h]
          · dsimp only
            by_cases h : t = i
            · rw [if_pos h, h]; exact ⟨HGQ.out.2, fun _ => HGQ.out.1⟩
            · rw [if_neg h]; exact ⟨(HPG.out t ht).1, fun h2 => (HPG.out t ht).2 (by omega)⟩
          · dsimp only
            by_cases h : t = i
            · rw [if_pos h, h]; exact ⟨HZ.out.2, fun _ => HZ.out.1⟩
            · rw [if_neg h]; exact ⟨(HPX.out t ht).1, fun h2 => (HPX.out t ht).2 (by omega)⟩
          · have := HI.out; simp [intOf]; omega
        · obtain rfl : n = i := by omega
          have hn12 := HN.out
          have HLC : Hid (∀ k, k < n * n → canonOf (lo k) = oU f hs n x k) := fun k hk => by
            obtain ⟨s1, s2, s3⟩ := split_k hk
            have h := HCO2.out _ _ s1 s2
            rw [s3] at h
            unfold oU
            by_cases c : k % n ≤ k / n
            · rw [if_pos c, h.2.1 ⟨c, Or.inl (Nat.zero_le _)⟩]
              exact oC_congr (fun i hi => by rw [← HCO.out i hi, canon_twice]) (fun j hj => (HSR.out j hj).1) s2
            · rw [if_neg c, h.2.2 (fun q => c q.1)]
              decide
          have HXC : Hid (∀ k, k < n → canonOf (xo k) = xU f hs zs n x z k) := fun k hk => (HPX.out k hk).2 hk
          have HGC : Hid (∀ k, k < n → canonOf (go k) = gU f hs n x k) := fun k hk => (HPG.out k hk).2 hk
          have F1 : finF (n * n) lo = finF (n * n) (oU f hs n x) := finF_canon HLC.out
          have F2 : finF n xo = finF n (xU f hs zs n x z) := finF_canon HXC.out
          have F3 : finM [SC] = finB (scU f hs zs n x z) := by rw [fin_sgl, ← finB_canon, HSS.out.1]
          have HLW := hid (HLO.out.below HBW.out)
          have HFXO : Hid (FnM wr (some ⟨gx, 0, none⟩) n n xo) := Or.inr ⟨gx, 0, rfl, HXO.out.lt, Nat.le_refl _, by omega, fun j hj => by rw [Nat.zero_add]; exact ⟨HXO.out.cell hj, (HPX.out j hj).1⟩⟩
          have HFGO : Hid (FnM wr (some ⟨gg, 0, none⟩) n n go) := Or.inr ⟨gg, 0, rfl, HG.out.lt, Nat.le_refl _, by omega, fun j hj => by rw [Nat.zero_add]; exact ⟨HG.out.cell hj, (HPG.out j hj).1⟩⟩
          have l144 : NN ≤ 144 := by rw [← hNN.out]; exact Nat.mul_le_mul hn12 hn12
          have HF8 : Hid (FrQ w wr [(ml, MBox n n (some ⟨gl, 0, none⟩) NN NN), (q, OBox M va n vc (some ⟨bs, os, none⟩) N1 ac), (p2, StBox 0 0 0 none 0 0), (p1, RBox none 0 0 0 0 none 0 0), (p0, RBox xa n kx n n sa m ka)] []) := HF7.out.call HBW.out
          have HC1 := hid (FinM_any (some ⟨gl, 0, none⟩) NN NN _ wr HLW.out.fl (by omega))
          have HC2 := hid (fun W (hW : Below wr.heap.size wr W) => FinM_any (some ⟨gx, 0, none⟩) n n _ W (HFXO.out.below hW).fl (by omega))
          have HC3 := hid (fun W sb (h : FlM W sb 1 1 [SC]) => areFin_any sb 1 1 [SC] W h (by decide))
          obtain ⟨B1, hB1⟩ : ∃ t, Hid (finF NN lo = t) := ⟨_, rfl⟩
          obtain ⟨B2, hB2⟩ : ∃ t, Hid (finF n xo = t) := ⟨_, rfl⟩
          obtain ⟨B3, hB3⟩ : ∃ t, Hid (finM [SC] = t) := ⟨_, rfl⟩
          have hb1 := hB1.out
          have hb2 := hB2.out
          unfold finF at hb1 hb2
          rw [hb1] at HC1
          rw [hb2] at HC2
          rw [hB3.out] at HC3
          have G1 : finF (n * n) (oU f hs n x) = B1 := by rw [← F1, hNN.out]; exact hB1.out
          have G2 : finF n (xU f hs zs n x z) = B2 := by rw [← F2]; exact hB2.out
          have G3 : finB (scU f hs zs n x z) = B3 := by rw [← F3]; exact hB3.out
          have HUE0 : Hid (updE f hs zs n x z = if (B1 && B2 && B3) = true then (if diagB n (oU f hs n x) = true then 0 else 93) else 5) := by
            show _ = _
            unfold updE
            rw [if_pos H0.out, G1, G2, G3]
          clear hb1 hb2 F1 F2 F3 G1 G2 G3
          obtain ⟨m0, m1, m2⟩ := mcells_of (HF8.out.at 0 rfl : wr.heap[ml]? = some (MBox n n (some ⟨gl, 0, none⟩) NN NN))
          cases B1 with
          | false =>
            have HUE : Hid (updE f hs zs n x z = 5) := by rw [HUE0.out]; exact if_neg (by simp)
            go_wp2_with fail
            refine HC1.out.mono ?_
            rintro e w7 ⟨rfl, hb⟩
            have HF9 : Hid (FrQ w w7 [(ml, MBox n n (some ⟨gl, 0, none⟩) NN NN), (q, OBox M va n vc (some ⟨bs, os, none⟩) N1 ac), (p2, StBox 0 0 0 none 0 0), (p1, RBox none 0 0 0 0 none 0 0), (p0, RBox xa n kx n n sa m ka)] []) := HF8.out.call hb
            have HB7 := hid hb
            clear hb
            go_wp2_with fail
            refine (HREF.out 5 _).mono ?_
            rintro e wr ⟨rfl, hb⟩
            have HFR := hid (HF9.out.call hb)
            clear hb
            obtain ⟨c0, c1, c2, c3⟩ := rcells_of (HFR.out.at 3 rfl : wr.heap[p1]? = some (RBox none 0 0 0 0 none 0 0))
            obtain ⟨d0, d1, d2, d3⟩ := scells_of (HFR.out.at 2 rfl : wr.heap[p2]? = some (StBox 0 0 0 none 0 0))
            have fz1 := rfrz (HFR.out.at 3 rfl : wr.heap[p1]? = some (RBox none 0 0 0 0 none 0 0))
            have fz2 := sfrz (HFR.out.at 2 rfl : wr.heap[p2]? = some (StBox 0 0 0 none 0 0))
            go_wp2_with fail
            refine bodyPost_ret (v := .tuple #[.agg #[.slice none 0 0, .int .i64 0, .int .i64 0, .slice none 0 0], .agg #[.float .f64 0, .float .f64 0, .float .f64 0, .slice none 0 0], .int .i64 5]) (by simp [results, Try.results32, go_sem, c0, c1, c2, c3, d0, d1, d2, d3]) rfl ⟨by rw [HUE.out]; exact Or.inr ⟨by decide, by rfl⟩, ?_⟩
            have hq1 := (HFR.out.box (p1, RBox none 0 0 0 0 none 0 0) (by simp)).2
            have hq2 := (HFR.out.box (p2, StBox 0 0 0 none 0 0) (by simp)).2
            have hbl := HFR.out.bel
            first | exact ssto_below (rsto_below hbl hq1 _ _ _ _) hq2 _ _ _ _ | (rw [← hp0.out]; exact ssto_below (rsto_below hbl hq1 _ _ _ _) hq2 _ _ _ _) | (rw [← hp0.out] at hq1 hq2 ⊢; exact ssto_below (rsto_below hbl hq1 _ _ _ _) hq2 _ _ _ _)
          | true =>
            cases B2 with
            | false =>
              have HUE : Hid (updE f hs zs n x z = 5) := by rw [HUE0.out]; exact if_neg (by simp)
              go_wp2_with fail
              refine HC1.out.mono ?_
              rintro e w7 ⟨rfl, hb⟩
              have HF9 : Hid (FrQ w w7 [(ml, MBox n n (some ⟨gl, 0, none⟩) NN NN), (q, OBox M va n vc (some ⟨bs, os, none⟩) N1 ac), (p2, StBox 0 0 0 none 0 0), (p1, RBox none 0 0 0 0 none 0 0), (p0, RBox xa n kx n n sa m ka)] []) := HF8.out.call hb
              have HB7 := hid hb
              clear hb
              go_wp2_with fail
              refine (HC2.out _ HB7.out).mono ?_
              rintro e w8 ⟨rfl, hb⟩
              have HF10 : Hid (FrQ w w8 [(ml, MBox n n (some ⟨gl, 0, none⟩) NN NN), (q, OBox M va n vc (some ⟨bs, os, none⟩) N1 ac), (p2, StBox 0 0 0 none 0 0), (p1, RBox none 0 0 0 0 none 0 0), (p0, RBox xa n kx n n sa m ka)] []) := HF9.out.call hb
              have HB8 := hid (HB7.out.trans (hb.mono HB7.out.size))
              clear hb
              go_wp2_with fail
              refine (HREF.out 5 _).mono ?_
              rintro e wr ⟨rfl, hb⟩
              have HFR := hid (HF10.out.call hb)
              clear hb
              obtain ⟨c0, c1, c2, c3⟩ := rcells_of (HFR.out.at 3 rfl : wr.heap[p1]? = some (RBox none 0 0 0 0 none 0 0))
              obtain ⟨d0, d1, d2, d3⟩ := scells_of (HFR.out.at 2 rfl : wr.heap[p2]? = some (StBox 0 0 0 none 0 0))
              have fz1 := rfrz (HFR.out.at 3 rfl : wr.heap[p1]? = some (RBox none 0 0 0 0 none 0 0))
              have fz2 := sfrz (HFR.out.at 2 rfl : wr.heap[p2]? = some (StBox 0 0 0 none 0 0))
              go_wp2_with fail
              refine bodyPost_ret (v := .tuple #[.agg #[.slice none 0 0, .int .i64 0, .int .i64 0, .slice none 0 0], .agg #[.float .f64 0, .float .f64 0, .float .f64 0, .slice none 0 0], .int .i64 5]) (by simp [results, Try.results32, go_sem, c0, c1, c2, c3, d0, d1, d2, d3]) rfl ⟨by rw [HUE.out]; exact Or.inr ⟨by decide, by rfl⟩, ?_⟩
              have hq1 := (HFR.out.box (p1, RBox none 0 0 0 0 none 0 0) (by simp)).2
              have hq2 := (HFR.out.box (p2, StBox 0 0 0 none 0 0) (by simp)).2
              have hbl := HFR.out.bel
              first | exact ssto_below (rsto_below hbl hq1 _ _ _ _) hq2 _ _ _ _ | (rw [← hp0.out]; exact ssto_below (rsto_below hbl hq1 _ _ _ _) hq2 _ _ _ _) | (rw [← hp0.out] at hq1 hq2 ⊢; exact ssto_below (rsto_below hbl hq1 _ _ _ _) hq2 _ _ _ _)
            | true =>
              cases B3 with
              | false =>
                have HUE : Hid (updE f hs zs n x z = 5) := by rw [HUE0.out]; exact if_neg (by simp)
                go_wp2_with fail
                refine HC1.out.mono ?_
                rintro e w7 ⟨rfl, hb⟩
                have HF9 : Hid (FrQ w w7 [(ml, MBox n n (some ⟨gl, 0, none⟩) NN NN), (q, OBox M va n vc (some ⟨bs, os, none⟩) N1 ac), (p2, StBox 0 0 0 none 0 0), (p1, RBox none 0 0 0 0 none 0 0), (p0, RBox xa n kx n n sa m ka)] []) := HF8.out.call hb
                have HB7 := hid hb
                clear hb
                go_wp2_with fail
                refine (HC2.out _ HB7.out).mono ?_
                rintro e w8 ⟨rfl, hb⟩
                have HF10 : Hid (FrQ w w8 [(ml, MBox n n (some ⟨gl, 0, none⟩) NN NN), (q, OBox M va n vc (some ⟨bs, os, none⟩) N1 ac), (p2, StBox 0 0 0 none 0 0), (p1, RBox none 0 0 0 0 none 0 0), (p0, RBox xa n kx n n sa m ka)] []) := HF9.out.call hb
                have HB8 := hid (HB7.out.trans (hb.mono HB7.out.size))
                clear hb
                have HF11 : Hid (FrQ w (w8.alloc (.cells #[.float .f64 SC] 28)) [(ml, MBox n n (some ⟨gl, 0, none⟩) NN NN), (q, OBox M va n vc (some ⟨bs, os, none⟩) N1 ac), (p2, StBox 0 0 0 none 0 0), (p1, RBox none 0 0 0 0 none 0 0), (p0, RBox xa n kx n n sa m ka)] []) := HF10.out.call ((Below.refl _ _).alloc (Nat.le_refl _) _)
                have HB9 : Hid (Below wr.heap.size wr (w8.alloc (.cells #[.float .f64 SC] 28))) := HB8.out.alloc HB8.out.size _
                have HO3 := hid (one_fl (w := w8.alloc (.cells #[.float .f64 SC] 28)) (b := w8.heap.size) HSS.out.2 (by have h := nblkM w8 (.cells #[.float .f64 SC] 28); unfold World.cell?; simp only []; rw [h]; rfl) (by simp))
                obtain ⟨V9, hV9⟩ : ∃ t, Hid (w8.alloc (.cells #[.float .f64 SC] 28) = t) := ⟨_, rfl⟩
                rw [hV9.out] at HF11 HB9 HO3
                have hV9' := hV9.out
                go_wp2_with fail
                refine (HC3.out _ _ HO3.out).mono ?_
                rintro e wA ⟨rfl, hb⟩
                have HF12 : Hid (FrQ w wA [(ml, MBox n n (some ⟨gl, 0, none⟩) NN NN), (q, OBox M va n vc (some ⟨bs, os, none⟩) N1 ac), (p2, StBox 0 0 0 none 0 0), (p1, RBox none 0 0 0 0 none 0 0), (p0, RBox xa n kx n n sa m ka)] []) := HF11.out.call hb
                have HBA := hid (HB9.out.trans (hb.mono HB9.out.size))
                clear hb
                obtain ⟨m0, m1, m2⟩ := mcells_of (HF12.out.at 0 rfl : wA.heap[ml]? = some (MBox n n (some ⟨gl, 0, none⟩) NN NN))
                go_wp2_with fail
                refine (HREF.out 5 _).mono ?_
                rintro e wr ⟨rfl, hb⟩
                have HFR := hid (HF12.out.call hb)
                clear hb
                obtain ⟨c0, c1, c2, c3⟩ := rcells_of (HFR.out.at 3 rfl : wr.heap[p1]? = some (RBox none 0 0 0 0 none 0 0))
                obtain ⟨d0, d1, d2, d3⟩ := scells_of (HFR.out.at 2 rfl : wr.heap[p2]? = some (StBox 0 0 0 none 0 0))
                have fz1 := rfrz (HFR.out.at 3 rfl : wr.heap[p1]? = some (RBox none 0 0 0 0 none 0 0))
                have fz2 := sfrz (HFR.out.at 2 rfl : wr.heap[p2]? = some (StBox 0 0 0 none 0 0))
                go_wp2_with fail
                refine bodyPost_ret (v := .tuple #[.agg #[.slice none 0 0, .int .i64 0, .int .i64 0, .slice none 0 0], .agg #[.float .f64 0, .float .f64 0, .float .f64 0, .slice none 0 0], .int .i64 5]) (by simp [results, Try.results32, go_sem, c0, c1, c2, c3, d0, d1, d2, d3]) rfl ⟨by rw [HUE.out]; exact Or.inr ⟨by decide, by rfl⟩, ?_⟩
                have hq1 := (HFR.out.box (p1, RBox none 0 0 0 0 none 0 0) (by simp)).2
                have hq2 := (HFR.out.box (p2, StBox 0 0 0 none 0 0) (by simp)).2
                have hbl := HFR.out.bel
                first | exact ssto_below (rsto_below hbl hq1 _ _ _ _) hq2 _ _ _ _ | (rw [← hp0.out]; exact ssto_below (rsto_below hbl hq1 _ _ _ _) hq2 _ _ _ _) | (rw [← hp0.out] at hq1 hq2 ⊢; exact ssto_below (rsto_below hbl hq1 _ _ _ _) hq2 _ _ _ _)
              | true =>
                go_wp2_with fail
                refine HC1.out.mono ?_
                rintro e w7 ⟨rfl, hb⟩
                have HF9 : Hid (FrQ w w7 [(ml, MBox n n (some ⟨gl, 0, none⟩) NN NN), (q, OBox M va n vc (some ⟨bs, os, none⟩) N1 ac), (p2, StBox 0 0 0 none 0 0), (p1, RBox none 0 0 0 0 none 0 0), (p0, RBox xa n kx n n sa m ka)] []) := HF8.out.call hb
                have HB7 := hid hb
                clear hb
                go_wp2_with fail
                refine (HC2.out _ HB7.out).mono ?_
                rintro e w8 ⟨rfl, hb⟩
                have HF10 : Hid (FrQ w w8 [(ml, MBox n n (some ⟨gl, 0, none⟩) NN NN), (q, OBox M va n vc (some ⟨bs, os, none⟩) N1 ac), (p2, StBox 0 0 0 none 0 0), (p1, RBox none 0 0 0 0 none 0 0), (p0, RBox xa n kx n n sa m ka)] []) := HF9.out.call hb
                have HB8 := hid (HB7.out.trans (hb.mono HB7.out.size))
                clear hb
                have HF11 : Hid (FrQ w (w8.alloc (.cells #[.float .f64 SC] 28)) [(ml, MBox n n (some ⟨gl, 0, none⟩) NN NN), (q, OBox M va n vc (some ⟨bs, os, none⟩) N1 ac), (p2, StBox 0 0 0 none 0 0), (p1, RBox none 0 0 0 0 none 0 0), (p0, RBox xa n kx n n sa m ka)] []) := HF10.out.call ((Below.refl _ _).alloc (Nat.le_refl _) _)
                have HB9 : Hid (Below wr.heap.size wr (w8.alloc (.cells #[.float .f64 SC] 28))) := HB8.out.alloc HB8.out.size _
                have HO3 := hid (one_fl (w := w8.alloc (.cells #[.float .f64 SC] 28)) (b := w8.heap.size) HSS.out.2 (by have h := nblkM w8 (.cells #[.float .f64 SC] 28); unfold World.cell?; simp only []; rw [h]; rfl) (by simp))
                obtain ⟨V9, hV9⟩ : ∃ t, Hid (w8.alloc (.cells #[.float .f64 SC] 28) = t) := ⟨_, rfl⟩
                rw [hV9.out] at HF11 HB9 HO3
                have hV9' := hV9.out
                go_wp2_with fail
                refine (HC3.out _ _ HO3.out).mono ?_
                rintro e wA ⟨rfl, hb⟩
                have HF12 : Hid (FrQ w wA [(ml, MBox n n (some ⟨gl, 0, none⟩) NN NN), (q, OBox M va n vc (some ⟨bs, os, none⟩) N1 ac), (p2, StBox 0 0 0 none 0 0), (p1, RBox none 0 0 0 0 none 0 0), (p0, RBox xa n kx n n sa m ka)] []) := HF11.out.call hb
                have HBA := hid (HB9.out.trans (hb.mono HB9.out.size))
                clear hb
                obtain ⟨m0, m1, m2⟩ := mcells_of (HF12.out.at 0 rfl : wA.heap[ml]? = some (MBox n n (some ⟨gl, 0, none⟩) NN NN))
                go_wp2_with fail
                have HLD := hid (lo_diag (n := n) HLC.out (by rw [hNN.out]; exact hB1.out))
                have HGD := hid (HLW.out.below HBA.out)
                have HCD := hid (cdiag_any n NN NN (some ⟨gl, 0, none⟩) lo wA ⟨HN.out, HN.out, hNN.out.symm, HGD.out, hB1.out⟩)
                rw [HLD.out] at HCD
                obtain ⟨DE, hDE⟩ : ∃ t, Hid ((if diagB n (oU f hs n x) = true then (0 : Int) else 93) = t) := ⟨_, rfl⟩
                rw [hDE.out] at HCD
                have HUE : Hid (updE f hs zs n x z = DE) := by rw [HUE0.out]; exact hDE.out
                refine HCD.out.mono ?_
                rintro e wB ⟨rfl, hb⟩
                have HF13 : Hid (FrQ w wB [(ml, MBox n n (some ⟨gl, 0, none⟩) NN NN), (q, OBox M va n vc (some ⟨bs, os, none⟩) N1 ac), (p2, StBox 0 0 0 none 0 0), (p1, RBox none 0 0 0 0 none 0 0), (p0, RBox xa n kx n n sa m ka)] []) := HF12.out.call hb
                have HBB := hid (HBA.out.trans (hb.mono HBA.out.size))
                clear hb
                obtain ⟨m0, m1, m2⟩ := mcells_of (HF13.out.at 0 rfl : wB.heap[ml]? = some (MBox n n (some ⟨gl, 0, none⟩) NN NN))
                by_cases hd : DE = 0
                · subst hd
                  obtain ⟨c0, c1, c2, c3⟩ := rcells_of (HF13.out.at 3 rfl : wB.heap[p1]? = some (RBox none 0 0 0 0 none 0 0))
                  obtain ⟨d0, d1, d2, d3⟩ := scells_of (HF13.out.at 2 rfl : wB.heap[p2]? = some (StBox 0 0 0 none 0 0))
                  have fz1 := rfrz (HF13.out.at 3 rfl : wB.heap[p1]? = some (RBox none 0 0 0 0 none 0 0))
                  have fz2 := sfrz (HF13.out.at 2 rfl : wB.heap[p2]? = some (StBox 0 0 0 none 0 0))
                  have z1 : p1 < V4.heap.size := (Array.getElem?_eq_some_iff.1 (HF5.out.at 2 rfl : V4.heap[p1]? = some (RBox none 0 0 0 0 none 0 0))).1
                  have z2 : p2 < V4.heap.size := (Array.getElem?_eq_some_iff.1 (HF5.out.at 1 rfl : V4.heap[p2]? = some (StBox 0 0 0 none 0 0))).1
                  have z3 : V4.heap.size ≤ V5.heap.size := HV45.out
                  go_wp2_with fail
                  refine bodyPost_ret (v := .tuple #[.agg #[.slice (some ⟨gx, 0, none⟩) n n, .int .i64 n, .int .i64 n, .slice (some ⟨gl, 0, none⟩) NN NN], .agg #[.float .f64 Y, .float .f64 A0, .float .f64 SC, .slice (some ⟨gg, 0, none⟩) n n], .int .i64 0]) (by simp [results, Try.results32, go_sem, c0, c1, c2, c3, d0, d1, d2, d3]) rfl ⟨?_, ?_⟩
                  · rw [HUE.out]
                    refine Or.inl ⟨rfl, gx, gl, gg, Y, A0, SC, xo, lo, go, by rw [hNN.out], by have := HNX.out.2.2; have := HF7.out.bel.size; omega, by have := HGQ.out.1; have := HF5.out.bel.size; omega, by have := HNX.out.2.1; have := HF7.out.bel.size; omega, ?_, ?_, ?_, HXC.out, HLC.out, HGC.out, HYC.out.1, HS0.out.1, HSS.out.1⟩
                    · exact ((HFXO.out.below HBB.out).rsto (by have := HNX.out.2.2; omega) _ _ _ _).rsto (by have := HNX.out.2.2; omega) _ _ _ _
                    · rw [hNN.out]; exact ((HLW.out.below HBB.out).rsto (by have := HGQ.out.1; omega) _ _ _ _).rsto (by have := HGQ.out.1; omega) _ _ _ _
                    · exact ((HFGO.out.below HBB.out).rsto (by have := HNX.out.2.1; omega) _ _ _ _).rsto (by have := HNX.out.2.1; omega) _ _ _ _
                  · have hq1 := (HF13.out.box (p1, RBox none 0 0 0 0 none 0 0) (by simp)).2
                    have hq2 := (HF13.out.box (p2, StBox 0 0 0 none 0 0) (by simp)).2
                    have hbl := HF13.out.bel
                    first | exact ssto_below (rsto_below hbl hq1 _ _ _ _) hq2 _ _ _ _ | (rw [← hp0.out]; exact ssto_below (rsto_below hbl hq1 _ _ _ _) hq2 _ _ _ _) | (rw [← hp0.out] at hq1 hq2 ⊢; exact ssto_below (rsto_below hbl hq1 _ _ _ _) hq2 _ _ _ _)
                · have hd1 : (DE != 0) = true := by simpa using hd
                  have HDN := hid hd
                  clear hd
                  go_wp2_with fail
                  refine (HREF.out DE _).mono ?_
                  rintro e wr ⟨rfl, hb⟩
                  have HFR := hid (HF13.out.call hb)
                  clear hb
                  obtain ⟨c0, c1, c2, c3⟩ := rcells_of (HFR.out.at 3 rfl : wr.heap[p1]? = some (RBox none 0 0 0 0 none 0 0))
                  obtain ⟨d0, d1, d2, d3⟩ := scells_of (HFR.out.at 2 rfl : wr.heap[p2]? = some (StBox 0 0 0 none 0 0))
                  have fz1 := rfrz (HFR.out.at 3 rfl : wr.heap[p1]? = some (RBox none 0 0 0 0 none 0 0))
                  have fz2 := sfrz (HFR.out.at 2 rfl : wr.heap[p2]? = some (StBox 0 0 0 none 0 0))
                  go_wp2_with fail
                  refine bodyPost_ret (v := .tuple #[.agg #[.slice none 0 0, .int .i64 0, .int .i64 0, .slice none 0 0], .agg #[.float .f64 0, .float .f64 0, .float .f64 0, .slice none 0 0], .int .i64 DE]) (by simp [results, Try.results32, go_sem, c0, c1, c2, c3, d0, d1, d2, d3]) rfl ⟨by rw [HUE.out]; exact Or.inr ⟨HDN.out, by rfl⟩, ?_⟩
                  have hq1 := (HFR.out.box (p1, RBox none 0 0 0 0 none 0 0) (by simp)).2
                  have hq2 := (HFR.out.box (p2, StBox 0 0 0 none 0 0) (by simp)).2
                  have hbl := HFR.out.bel
                  first | exact ssto_below (rsto_below hbl hq1 _ _ _ _) hq2 _ _ _ _ | (rw [← hp0.out]; exact ssto_below (rsto_below hbl hq1 _ _ _ _) hq2 _ _ _ _) | (rw [← hp0.out] at hq1 hq2 ⊢; exact ssto_below (rsto_below hbl hq1 _ _ _ _) hq2 _ _ _ _)
  · unfold updE
    rw [if_neg h0]
    have HF5E := hid (forE_five h0)
    rw [HF5E.out] at HFOR
    clear h0
    go_enter Try.func32, Try.ntmps32
    go_wp2_with fail
    refine (HROW.out V HF0.out.bel).mono ?_
    rintro e w1 ⟨rfl, hb⟩
    have HF1 : Hid (FrQ w w1 [(p2, StBox 0 0 0 none 0 0), (p1, RBox none 0 0 0 0 none 0 0), (p0, RBox xa n kx n n sa m ka)] []) := HF0.out.call hb
    obtain ⟨x0, x1, x2, x3⟩ := rcells_of (HF1.out.at 2 rfl : w1.heap[p0]? = some (RBox xa n kx n n sa m ka))
    clear hb
    have hal : Below w1.heap.size w1 (w1.alloc (.cells #[.float .f64 z] 28)) := (Below.refl _ _).alloc (Nat.le_refl _) _
    have HF2 : Hid (FrQ w (w1.alloc (.cells #[.float .f64 z] 28)) [(p2, StBox 0 0 0 none 0 0), (p1, RBox none 0 0 0 0 none 0 0), (p0, RBox xa n kx n n sa m ka)] []) := HF1.out.call hal
    have HO := hid (one_fl (w := w1.alloc (.cells #[.float .f64 z] 28)) (b := w1.heap.size) HZL.out (by have h := nblkM w1 (.cells #[.float .f64 z] 28); unfold World.cell?; simp only []; rw [h]; rfl) (by simp))
    obtain ⟨V1, hV1⟩ : ∃ t, Hid (w1.alloc (.cells #[.float .f64 z] 28) = t) := ⟨_, rfl⟩
    rw [hV1.out] at HF2 HO
    have hV1' := hV1.out
    clear hal
    go_wp2_with fail
    refine (HAF.out _ _ HO.out).mono ?_
    rintro e w3 ⟨rfl, hb⟩
    have HF3 : Hid (FrQ w w3 [(p2, StBox 0 0 0 none 0 0), (p1, RBox none 0 0 0 0 none 0 0), (p0, RBox xa n kx n n sa m ka)] []) := HF2.out.call hb
    obtain ⟨x0, x1, x2, x3⟩ := rcells_of (HF3.out.at 2 rfl : w3.heap[p0]? = some (RBox xa n kx n n sa m ka))
    clear hb
    go_wp2_with fail
    refine (HFOR.out w3 HF3.out.bel).mono ?_
    rintro e w4 ⟨⟨M, va, vk, vc, aa, ak, ac, rfl, hOut⟩, hb⟩
    have HF4 : Hid (FrQ w w4 [(p2, StBox 0 0 0 none 0 0), (p1, RBox none 0 0 0 0 none 0 0), (p0, RBox xa n kx n n sa m ka)] []) := HF3.out.call hb
    clear hb
    obtain h | ⟨_, rfl, rfl, rfl, rfl, rfl, rfl, rfl⟩ := hOut
    · exact absurd h.1 (by decide)
    go_wp2_with fail
    have HF5 := hid (HF4.out.alloc (OBox 0 none 0 0 none 0 0))
    refine (HREF.out 5 _).mono ?_
    rintro e wr ⟨rfl, hb⟩
    have HFR := hid (HF5.out.call hb)
    clear hb
    obtain ⟨c0, c1, c2, c3⟩ := rcells_of (HFR.out.at 2 rfl : wr.heap[p1]? = some (RBox none 0 0 0 0 none 0 0))
    obtain ⟨d0, d1, d2, d3⟩ := scells_of (HFR.out.at 1 rfl : wr.heap[p2]? = some (StBox 0 0 0 none 0 0))
    have fz1 := rfrz (HFR.out.at 2 rfl : wr.heap[p1]? = some (RBox none 0 0 0 0 none 0 0))
    have fz2 := sfrz (HFR.out.at 1 rfl : wr.heap[p2]? = some (StBox 0 0 0 none 0 0))
    go_wp2_with fail
    refine bodyPost_ret (v := .tuple #[.agg #[.slice none 0 0, .int .i64 0, .int .i64 0, .slice none 0 0], .agg #[.float .f64 0, .float .f64 0, .float .f64 0, .slice none 0 0], .int .i64 5]) (by simp [results, Try.results32, go_sem, c0, c1, c2, c3, d0, d1, d2, d3]) rfl ⟨Or.inr ⟨by decide, by rfl⟩, ?_⟩
    have hq1 := (HFR.out.box (p1, RBox none 0 0 0 0 none 0 0) (by simp)).2
    have hq2 := (HFR.out.box (p2, StBox 0 0 0 none 0 0) (by simp)).2
    have hbl := HFR.out.bel
    first | exact ssto_below (rsto_below hbl hq1 _ _ _ _) hq2 _ _ _ _ | (rw [← hp0.out]; exact ssto_below (rsto_below hbl hq1 _ _ _ _) hq2 _ _ _ _) | (rw [← hp0.out] at hq1 hq2 ⊢; exact ssto_below (rsto_below hbl hq1 _ _ _ _) hq2 _ _ _ _)
end Go.Proofs.Ythakhmnlpmfdgaa
