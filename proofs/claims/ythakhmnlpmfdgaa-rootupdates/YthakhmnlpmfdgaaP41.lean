
/- root.Foresee of anything. -/
import Derived.Test.YthakhmnlpmfdgaaP40
import Derived.Test.YthakhmnlpmfdgaaP27
import Derived.Test.YthakhmnlpmfdgaaP18
namespace Go.Proofs.Ythakhmnlpmfdgaa
open Go.RowKit Go.IntWalk

/-- What Foresee answers. -/
def FoR (E : Int) (f : Nat → Nat) (hs zs : List Nat) (n x : Nat) (e : Ending) : Prop :=
  (E = 0 ∧ ∃ A : Nat, canonOf A = sumA (alV f hs n) x n n ∧ A < 18446744073709551616 ∧ e = .returned (.tuple #[.float .f64 (dotW hs zs n), .float .f64 A, .int .i64 0])) ∨ (E ≠ 0 ∧ e = .returned (.tuple #[.float .f64 0, .float .f64 0, .int .i64 E]))
set_option maxRecDepth 8000 in
set_option maxHeartbeats 4000000 in
theorem Foresee_bad (xa : Option Addr) (k kx : Nat) (zs : List Nat) (r c : Int) (sa : Option Addr) (m ka : Nat) (xs : List Nat) (ha : Option Addr) (q kh x : Nat) (w : World) (hX : FlM w xa k kx zs) (hk : k ≤ 17592186043904) (hA : FlM w sa m ka xs) (hm : m ≤ 17592186043904) (hb : rootE zs k r c m xs ≠ 0) :
    Calls Try.prog 5 #[.agg #[.slice xa k kx, .int .i64 r, .int .i64 c, .slice sa m ka], .slice ha q kh, .float .f64 x] w fun e w' => e = .returned (.tuple #[.float .f64 0, .float .f64 0, .int .i64 (rootE zs k r c m xs)]) ∧ Below w.heap.size w w' := by
  have HC := hid (fun W (hW : Below w.heap.size w W) => rcheck_any xa k kx zs r c sa m ka xs W (hX.below hW) hk (hA.below hW) hm)
  obtain ⟨E, hE⟩ : ∃ t, Hid (rootE zs k r c m xs = t) := ⟨_, rfl⟩
  rw [hE.out] at HC hb ⊢
  have hne : (E != 0) = true := by simpa using hb
  unfold RV at HC
  have H0 : Hid ((w.alloc (RBox xa k kx r c sa m ka)).heap[w.heap.size]? = some (RBox xa k kx r c sa m ka)) := nblkM _ _
  have HB : Hid (Below w.heap.size w (w.alloc (RBox xa k kx r c sa m ka))) := (Below.refl _ _).alloc (Nat.le_refl _) _
  obtain ⟨V, hV⟩ : ∃ t, Hid (w.alloc (RBox xa k kx r c sa m ka) = t) := ⟨_, rfl⟩
  rw [hV.out] at H0 HB
  have hV' := hV.out
  unfold RBox at hV'
  obtain ⟨p0, hp0⟩ : ∃ t, Hid (w.heap.size = t) := ⟨_, rfl⟩
  have e0 := hp0.out
  rw [hp0.out] at H0
  obtain ⟨x0, x1, x2, x3⟩ := rcells_of H0.out
  clear hX hA hk hm hb
  go_enter Try.func5, Try.ntmps5
  go_wp2_with fail
  refine (HC.out V HB.out).mono ?_
  rintro e w1 ⟨rfl, hb1⟩
  have HB1 := hid (HB.out.trans (hb1.mono HB.out.size))
  clear hb1
  go_wp2_with fail
  exact bodyPost_ret (v := .tuple #[.float .f64 0, .float .f64 0, .int .i64 E]) (by simp [results, Try.results5, go_sem]) rfl ⟨rfl, HB1.out⟩
set_option maxRecDepth 8000 in
set_option maxHeartbeats 4000000 in
theorem Foresee_row (xa : Option Addr) (k kx : Nat) (zs : List Nat) (r c : Int) (sa : Option Addr) (m ka : Nat) (xs : List Nat) (ha : Option Addr) (q kh x : Nat) (hs : List Nat) (w : World) (hX : FlM w xa k kx zs) (hk : k ≤ 17592186043904) (hA : FlM w sa m ka xs) (hm : m ≤ 17592186043904) (hH : FlM w ha q kh hs) (hq : q ≤ 17592186043904) (hx : x < 18446744073709551616) (hb : rootE zs k r c m xs = 0) (hr : rrowE q hs (k : Int) x ≠ 0) :
    Calls Try.prog 5 #[.agg #[.slice xa k kx, .int .i64 r, .int .i64 c, .slice sa m ka], .slice ha q kh, .float .f64 x] w fun e w' => e = .returned (.tuple #[.float .f64 0, .float .f64 0, .int .i64 (rrowE q hs (k : Int) x)]) ∧ Below w.heap.size w w' := by
  have HC := hid (fun W (hW : Below w.heap.size w W) => rcheck_any xa k kx zs r c sa m ka xs W (hX.below hW) hk (hA.below hW) hm)
  rw [hb] at HC
  have HRW := hid (fun W (hW : Below w.heap.size w W) => rrow_any ha q kh hs x (k : Int) W (hH.below hW) hq hx)
  obtain ⟨E, hE⟩ : ∃ t, Hid (rrowE q hs (k : Int) x = t) := ⟨_, rfl⟩
  rw [hE.out] at HRW hr ⊢
  have hne : (E != 0) = true := by simpa using hr
  unfold RV at HC
  have H0 : Hid ((w.alloc (RBox xa k kx r c sa m ka)).heap[w.heap.size]? = some (RBox xa k kx r c sa m ka)) := nblkM _ _
  have HB : Hid (Below w.heap.size w (w.alloc (RBox xa k kx r c sa m ka))) := (Below.refl _ _).alloc (Nat.le_refl _) _
  obtain ⟨V, hV⟩ : ∃ t, Hid (w.alloc (RBox xa k kx r c sa m ka) = t) := ⟨_, rfl⟩
  rw [hV.out] at H0 HB
  have hV' := hV.out
  unfold RBox at hV'
  obtain ⟨p0, hp0⟩ : ∃ t, Hid (w.heap.size = t) := ⟨_, rfl⟩
  have e0 := hp0.out
  rw [hp0.out] at H0
  obtain ⟨x0, x1, x2, x3⟩ := rcells_of H0.out
  clear hX hA hk hm hb hH hq hx hr
  go_enter Try.func5, Try.ntmps5
  go_wp2_with fail
  refine (HC.out V HB.out).mono ?_
  rintro e w1 ⟨rfl, hb1⟩
  have HB1 := hid (HB.out.trans (hb1.mono HB.out.size))
  obtain ⟨x0, x1, x2, x3⟩ := rcells_of (blkM H0.out hb1)
  clear hb1
  go_wp2_with fail
  refine (HRW.out w1 HB1.out).mono ?_
  rintro e w2 ⟨rfl, hb2⟩
  have HB2 := hid (HB1.out.trans (hb2.mono HB1.out.size))
  clear hb2
  go_wp2_with fail
  exact bodyPost_ret (v := .tuple #[.float .f64 0, .float .f64 0, .int .i64 E]) (by simp [results, Try.results5, go_sem]) rfl ⟨rfl, HB2.out⟩
set_option maxRecDepth 8000 in
set_option maxHeartbeats 4000000 in
theorem Foresee_fine (n m ka kx kh x : Nat) (xa sa ha : Option Addr) (zs hs xs : List Nat) (w : World) (hX : FlM w xa n kx zs) (hA : FlM w sa m ka xs) (hH : FlM w ha n kh hs) (hm : m ≤ 144 ∧ n ≤ 12) (hb : rootE zs n n n m xs = 0) (hx : x < 18446744073709551616) (hr : rrowE n hs (n : Int) x = 0) :
    Calls Try.prog 5 #[.agg #[.slice xa n kx, .int .i64 n, .int .i64 n, .slice sa m ka], .slice ha n kh, .float .f64 x] w fun e w' => FoR (forE n (fun j => xs.getD j 0) hs zs x) (fun j => xs.getD j 0) hs zs n x e ∧ Below w.heap.size w w' := by
  have HC := hid (fun W (hW : Below w.heap.size w W) => rcheck_any xa n kx zs n n sa m ka xs W (hX.below hW) (by omega) (hA.below hW) (by omega))
  rw [hb] at HC
  have HRW := hid (fun W (hW : Below w.heap.size w W) => rrow_any ha n kh hs x (n : Int) W (hH.below hW) (by omega) hx)
  rw [hr] at HRW
  obtain ⟨_, _, hc, hfz, _, _⟩ := rootE_zero hb
  have HFO := hid (fun W (hW : Below w.heap.size w W) => foreseen_any n m ka kx kh x xa sa ha zs hs (fun j => xs.getD j 0) W (hX.below hW) (gd_own_r (hA.below hW) hc) (hH.below hW) hx hfz (ls_zero (rrow_zero hr).1).2)
  have HN := hid hm.2
  obtain ⟨E, hE⟩ : ∃ t, Hid (forE n (fun j => xs.getD j 0) hs zs x = t) := ⟨_, rfl⟩
  rw [hE.out] at HFO ⊢
  unfold RV at HC
  have H0 : Hid ((w.alloc (RBox xa n kx n n sa m ka)).heap[w.heap.size]? = some (RBox xa n kx n n sa m ka)) := nblkM _ _
  have HB : Hid (Below w.heap.size w (w.alloc (RBox xa n kx n n sa m ka))) := (Below.refl _ _).alloc (Nat.le_refl _) _
  obtain ⟨V, hV⟩ : ∃ t, Hid (w.alloc (RBox xa n kx n n sa m ka) = t) := ⟨_, rfl⟩
  rw [hV.out] at H0 HB
  have hV' := hV.out
  unfold RBox at hV'
  obtain ⟨p0, hp0⟩ : ∃ t, Hid (w.heap.size = t) := ⟨_, rfl⟩
  have e0 := hp0.out
  rw [hp0.out] at H0
  obtain ⟨x0, x1, x2, x3⟩ := rcells_of H0.out
  clear hX hA hm hb hH hx hr hc hfz
  have hst := fstoreM
  go_enter Try.func5, Try.ntmps5
  go_wp2_with fail
  refine (HC.out V HB.out).mono ?_
  rintro e w1 ⟨rfl, hb1⟩
  have HB1 := hid (HB.out.trans (hb1.mono HB.out.size))
  have H1 : Hid (w1.heap[p0]? = some (RBox xa n kx n n sa m ka)) := blkM H0.out hb1
  obtain ⟨x0, x1, x2, x3⟩ := rcells_of H1.out
  clear hb1
  go_wp2_with fail
  refine (HRW.out w1 HB1.out).mono ?_
  rintro e w2 ⟨rfl, hb2⟩
  have HB2 := hid (HB1.out.trans (hb2.mono HB1.out.size))
  have H2 : Hid (w2.heap[p0]? = some (RBox xa n kx n n sa m ka)) := blkM H1.out hb2
  obtain ⟨x0, x1, x2, x3⟩ := rcells_of H2.out
  clear hb2
  go_wp2_with fail
  refine (HFO.out w2 HB2.out).mono ?_
  rintro e w3 ⟨⟨M, va, vk, vc, aa, ak, ac, rfl, hOut⟩, hb3⟩
  have HB3 := hid (HB2.out.trans (hb3.mono HB2.out.size))
  clear hb3
  obtain ⟨hE0, hM, hvk, hak, o, a, hfo, hco, hfa, hca⟩ | ⟨hE0, rfl, rfl, rfl, rfl, rfl, rfl, rfl⟩ := hOut
  · subst hE0
    rw [hvk, hak]
    have hNz : n + 1 ≠ 0 := by omega
    have hA := hca 0 (Nat.zero_le _)
    rw [Nat.sub_zero] at hA
    obtain ⟨bs0, os0, haa, _, _⟩ := fn_some hfa hNz
    subst haa
    obtain ⟨N1, hN1⟩ : ∃ t, Hid (n + 1 = t) := ⟨_, rfl⟩
    have hal : Below w3.heap.size w3 (w3.alloc (OBox M va n vc (some ⟨bs0, os0, none⟩) N1 ac)) := (Below.refl _ _).alloc (Nat.le_refl _) _
    obtain ⟨bs, os, hbb, _, hsc⟩ := fn_some (hfa.below hal) hNz
    cases hbb
    have hs0 := hsc 0 (by omega)
    rw [Nat.add_zero] at hs0
    obtain ⟨c0, c1, c2⟩ := ocells_of (nblkM w3 (OBox M va n vc (some ⟨bs0, os0, none⟩) N1 ac))
    have HB4 := hid (HB3.out.trans (hal.mono HB3.out.size))
    obtain ⟨A0, hA0⟩ : ∃ t, Hid (a 0 = t) := ⟨_, rfl⟩
    rw [hA0.out] at hs0 hA
    obtain ⟨s0, s1⟩ := hs0
    have HA := hid hA
    have HA1 := hid s1
    have HMD := hid hM
    rw [hN1.out]
    have hN1p : (0 : Int) < (N1 : Int) := by have := hN1.out; omega
    clear hfo hco hfa hca hal hsc hA s1 hM hNz
    obtain ⟨V4, hV4⟩ : ∃ t, Hid (w3.alloc (OBox M va n vc (some ⟨bs0, os0, none⟩) N1 ac) = t) := ⟨_, rfl⟩
    rw [hV4.out] at s0 c0 c1 c2 HB4
    have hV4' := hV4.out
    unfold OBox at hV4'
    obtain ⟨p4, hp4⟩ : ∃ t, Hid (w3.heap.size = t) := ⟨_, rfl⟩
    rw [hp4.out] at c0 c1 c2
    have e4 := hp4.out
    go_wp2_with fail
    go_quiet (fail)
    go_wp2_with fail
    exact bodyPost_ret (v := .tuple #[.float .f64 M, .float .f64 A0, .int .i64 0]) (by simp [results, Try.results5, go_sem]) rfl ⟨Or.inl ⟨rfl, A0, HA.out, HA1.out, by rw [HMD.out]⟩, bl_drewN _ HB4.out⟩
  · have hne : (E != 0) = true := by simpa using hE0
    have HE0 := hid hE0
    clear hE0
    go_wp2_with fail
    exact bodyPost_ret (v := .tuple #[.float .f64 0, .float .f64 0, .int .i64 E]) (by simp [results, Try.results5, go_sem]) rfl ⟨Or.inr ⟨HE0.out, rfl⟩, HB3.out.alloc HB3.out.size _⟩
/-- What Foresee tells of anything. -/
def forT (zs : List Nat) (k : Nat) (r c : Int) (m : Nat) (xs : List Nat) (q : Nat) (hs : List Nat) (x : Nat) : Int := if rootE zs k r c m xs = 0 then (if rrowE q hs (k : Int) x = 0 then forE k (fun j => xs.getD j 0) hs zs x else rrowE q hs (k : Int) x) else rootE zs k r c m xs
theorem Foresee_any (xa : Option Addr) (k kx : Nat) (zs : List Nat) (r c : Int) (sa : Option Addr) (m ka : Nat) (xs : List Nat) (ha : Option Addr) (q kh x : Nat) (hs : List Nat) (w : World) (hX : FlM w xa k kx zs) (hk : k ≤ 17592186043904) (hA : FlM w sa m ka xs) (hm : m ≤ 17592186043904) (hH : FlM w ha q kh hs) (hq : q ≤ 17592186043904) (hx : x < 18446744073709551616) :
    Calls Try.prog 5 #[.agg #[.slice xa k kx, .int .i64 r, .int .i64 c, .slice sa m ka], .slice ha q kh, .float .f64 x] w fun e w' => FoR (forT zs k r c m xs q hs x) (fun j => xs.getD j 0) hs zs k x e ∧ Below w.heap.size w w' := by
  unfold forT
  by_cases h1 : rootE zs k r c m xs = 0
  · rw [if_pos h1]
    by_cases h2 : rrowE q hs (k : Int) x = 0
    · rw [if_pos h2]
      obtain ⟨p5, _⟩ := ls_zero (rrow_zero h2).1
      obtain ⟨er, ec, hc, _, _, _⟩ := rootE_zero h1
      subst er
      subst ec
      have p7 : q = k := by omega
      subst p7
      have hg := gd_own_r hA hc
      exact Foresee_fine q m ka kx kh x xa sa ha zs hs xs w hX hA hH ⟨by have := hg.2.2.1; have := Nat.mul_le_mul hg.1 hg.1; omega, hg.1⟩ h1 hx h2
    · rw [if_neg h2]
      exact (Foresee_row xa k kx zs r c sa m ka xs ha q kh x hs w hX hk hA hm hH hq hx h1 h2).mono fun e w' h => ⟨Or.inr ⟨h2, h.1⟩, h.2⟩
  · rw [if_neg h1]
    exact (Foresee_bad xa k kx zs r c sa m ka xs ha q kh x w hX hk hA hm h1).mono fun e w' h => ⟨Or.inr ⟨h1, h.1⟩, h.2⟩
end Go.Proofs.Ythakhmnlpmfdgaa

namespace Go.Proofs.Ythakhmnlpmfdgaa
open Go.RowKit Go.IntWalk

theorem ord_pos {x : Nat} (hx : x < 18446744073709551616) (hf : (expOf x == 2047) = false) : (FloatKind.f64.format.order x 0 == some .gt) = !((FloatKind.f64.format.order x 0 == some .lt) || (FloatKind.f64.format.order x 0 == some .eq)) := by
  have h3 : FinN x := fin_exp2 hx hf
  have h6 := order_eq x 0 hx (by decide) (Nat.le_of_lt h3.2) (by decide)
  rw [h6]
  cases compare (sv x) (sv 0) <;> decide
set_option maxRecDepth 4000 in
set_option maxHeartbeats 2000000 in
theorem rRow15_any (n : Int) (sa : Option Addr) (q ka : Nat) (hs : List Nat) (x : Nat) (w : World) (ha : FlM w sa q ka hs) (hq : q ≤ 17592186043904) (hx : x < 18446744073709551616) :
    Calls Try.prog 26 #[.int .i64 n, .slice sa q ka, .float .f64 x] w fun e w' => e = .returned (.int .i64 (rrowE q hs n x)) ∧ w' = w := by
  have HAF := hid (rall_any sa q ka hs w ha hq)
  have HFI := hid (rfinite_any x w hx)
  unfold rrowE lsE
  have hf1 : finM [x] = !(expOf x == 2047) := by unfold finM; simp
  rw [hf1]
  have hgt := ord_pos (x := x) hx
  obtain ⟨F, hF⟩ : ∃ t, Hid (finM hs = t) := ⟨_, rfl⟩
  obtain ⟨X, hX⟩ : ∃ t, Hid ((expOf x == 2047) = t) := ⟨_, rfl⟩
  obtain ⟨A, hA⟩ : ∃ t, Hid ((FloatKind.f64.format.order x 0 == some .lt) = t) := ⟨_, rfl⟩
  obtain ⟨B, hB⟩ : ∃ t, Hid ((FloatKind.f64.format.order x 0 == some .eq) = t) := ⟨_, rfl⟩
  rw [hF.out] at HAF ⊢
  rw [hX.out] at HFI hgt ⊢
  rw [hA.out, hB.out] at hgt ⊢
  clear ha hx hf1
  go_enter Try.func26, Try.ntmps26
  by_cases hl : (q : Int) = n
  · subst hl
    have h1 : (((q : Int) != (q : Int)) = false) := by simp
    go_wp2_with fail
    refine HAF.out.mono ?_
    rintro e w1 ⟨rfl, rfl⟩
    cases F with
    | false =>
      go_wp2_with fail
      go_ret
      exact ⟨by simp, rfl⟩
    | true =>
      go_wp2_with fail
      refine HFI.out.mono ?_
      rintro e w1 ⟨rfl, rfl⟩
      cases X with
      | true =>
        go_wp2_with fail
        go_ret
        exact ⟨by simp, rfl⟩
      | false =>
        have hg := hgt rfl
        cases A with
        | true =>
          go_wp2_with fail
          go_ret
          exact ⟨by simp, rfl⟩
        | false =>
          cases B with
          | true =>
            go_wp2_with fail
            go_ret
            exact ⟨by simp, rfl⟩
          | false =>
            go_wp2_with fail
            go_ret
            exact ⟨by simp, rfl⟩
  · have h1 : (((q : Int) != n) = true) := by simpa using hl
    go_wp2_with fail
    go_ret
    exact ⟨by simp, rfl⟩
end Go.Proofs.Ythakhmnlpmfdgaa

namespace Go.Proofs.Ythakhmnlpmfdgaa
open Go.RowKit Go.IntWalk

set_option maxRecDepth 4000
set_option maxHeartbeats 2000000
theorem r9At_any (r : Int) (sa : Option Addr) (c n cap i j : Nat) (xs : List Nat) (w : World) (h : FlM w sa n cap xs) (hi : i ≤ 100) (hc : c ≤ 100) (hj : j ≤ 100) (hk : i * c + j < n) : Calls Try.prog 82 #[MV r c sa n cap, .int .i64 i, .int .i64 j] w fun r w' => r = .returned (.float .f64 (xs.getD (i * c + j) 0)) ∧ Below w.heap.size w w' := by
  obtain ⟨b, off, rfl, h1, h2, _⟩ := h.at (by omega)
  have hp : i * c ≤ 10000 := Nat.mul_le_mul hi hc
  have hc0 := h2 _ hk
  have e1 : (i : Int) * (c : Int) = ((i * c : Nat) : Int) := by simp
  obtain ⟨p, hp'⟩ : ∃ p, Hid (i * c = p) := ⟨_, rfl⟩
  rw [hp'.out] at e1 hp hk hc0 ⊢
  have e2 : (p : Int) + (j : Int) = ((p + j : Nat) : Int) := by simp
  obtain ⟨k, hk'⟩ : ∃ k, Hid (p + j = k) := ⟨_, rfl⟩
  have e3 := wrapM p (by omega)
  have e4 := wrapM k (by rw [← hk'.out]; omega)
  rw [hk'.out] at e2 hk hc0 ⊢
  have k0 : (0 : Int) ≤ (k : Int) := by omega
  have k1 : (k : Int) < (n : Int) := by omega
  have hcell : (w.alloc (MBox r c (some ⟨b, off, none⟩) n cap)).cell? ⟨b, off + k, none⟩ = some (.float .f64 (xs.getD k 0)) := by
    rw [((Below.refl w.heap.size w).alloc (Nat.le_refl _) _).cell (p := ⟨b, off + k, none⟩) h1]
    exact hc0
  have HB : Hid (Below w.heap.size w (w.alloc (MBox r c (some ⟨b, off, none⟩) n cap))) := (Below.refl _ _).alloc (Nat.le_refl _) _
  obtain ⟨x, hx⟩ : ∃ x, Hid (xs.getD k 0 = x) := ⟨_, rfl⟩
  rw [hx.out] at hcell ⊢
  unfold MBox at HB hcell
  unfold MV
  clear h h1 h2 hc0 hi hc hj hp
  go_enter Try.func82, Try.ntmps82
  go_wp2_with fail
  go_ret
  exact ⟨rfl, HB.out⟩
theorem r9At_fn (r : Int) (sa : Option Addr) (c n cap i j : Nat) (f : Nat → Nat) (w : World) (h : FnM w sa n cap f) (hi : i ≤ 100) (hc : c ≤ 100) (hj : j ≤ 100) (hk : i * c + j < n) : Calls Try.prog 82 #[.agg #[.int .i64 r, .int .i64 c, .slice sa n cap], .int .i64 i, .int .i64 j] w fun r w' => r = .returned (.float .f64 (f (i * c + j))) ∧ Below w.heap.size w w' := by
  have := r9At_any r sa c n cap i j _ w h.fl hi hc hj hk
  rw [getD_map n f _ hk] at this
  exact this
/-- A matrix's shape. -/
def shape3E (r c : Int) (n : Nat) : Int := if sideB r = false ∨ sideB c = false then 1 else if (n : Int) ≠ r * c then 3 else 0
theorem chk_shp (r c : Int) (n : Nat) (xs : List Nat) : chkM r c n xs = if shape3E r c n = 0 then (if finM xs = true then 0 else 4) else shape3E r c n := by
  unfold chkM shape3E
  by_cases h1 : sideB r = false ∨ sideB c = false
  · rw [if_pos h1, if_pos h1, if_neg (by decide)]
  · rw [if_neg h1, if_neg h1]
    by_cases h2 : (n : Int) ≠ r * c
    · rw [if_pos h2, if_pos h2, if_neg (by decide)]
    · rw [if_neg h2, if_neg h2, if_pos rfl]
      cases finM xs <;> rfl
theorem shape3_any (r c : Int) (n : Nat) (w : World) : Calls Try.prog 98 #[.int .i64 r, .int .i64 c, .int .i64 n] w fun e w' => e = .returned (.int .i64 (shape3E r c n)) ∧ w' = w := by
  obtain ⟨E, hE⟩ : ∃ E, Hid (shape3E r c n = E) := ⟨_, rfl⟩
  rw [hE.out]
  by_cases h1 : r < 0
  · obtain rfl : E = 1 := by rw [← hE.out]; unfold shape3E; rw [if_pos (Or.inl (by unfold sideB; simp; omega))]
    go_enter Try.func98, Try.ntmps98
    go_wp2_with fail
    go_ret
    exact ⟨rfl, rfl⟩
  by_cases h2 : 12 < r
  · obtain rfl : E = 1 := by rw [← hE.out]; unfold shape3E; rw [if_pos (Or.inl (by unfold sideB; simp; omega))]
    go_enter Try.func98, Try.ntmps98
    go_wp2_with fail
    go_ret
    exact ⟨rfl, rfl⟩
  by_cases h3 : c < 0
  · obtain rfl : E = 1 := by rw [← hE.out]; unfold shape3E; rw [if_pos (Or.inr (by unfold sideB; simp; omega))]
    go_enter Try.func98, Try.ntmps98
    go_wp2_with fail
    go_ret
    exact ⟨rfl, rfl⟩
  by_cases h4 : 12 < c
  · obtain rfl : E = 1 := by rw [← hE.out]; unfold shape3E; rw [if_pos (Or.inr (by unfold sideB; simp; omega))]
    go_enter Try.func98, Try.ntmps98
    go_wp2_with fail
    go_ret
    exact ⟨rfl, rfl⟩
  have hE2 : E = if (n : Int) ≠ r * c then 3 else 0 := by
    rw [← hE.out]
    unfold shape3E
    rw [if_neg (by unfold sideB; simp; omega)]
  obtain ⟨a, rfl⟩ := Int.eq_ofNat_of_zero_le (show 0 ≤ r by omega)
  obtain ⟨b, rfl⟩ := Int.eq_ofNat_of_zero_le (show 0 ≤ c by omega)
  have hp : a * b ≤ 12 * 12 := Nat.mul_le_mul (by omega) (by omega)
  have e1 : (a : Int) * (b : Int) = ((a * b : Nat) : Int) := by simp
  obtain ⟨N, hN⟩ : ∃ p, Hid (a * b = p) := ⟨_, rfl⟩
  rw [hN.out] at e1 hp
  rw [e1] at hE2
  have e3 := wrapM N (by omega)
  by_cases h5 : (n : Int) = (N : Int)
  · have hne : ((n : Int) != (N : Int)) = false := by simp [h5]
    obtain rfl : E = 0 := by rw [hE2, if_neg (by simpa using h5)]
    clear hp hE2 h5
    go_enter Try.func98, Try.ntmps98
    go_wp2_with fail
    go_ret
    exact ⟨rfl, rfl⟩
  · have hne : ((n : Int) != (N : Int)) = true := by simpa using h5
    obtain rfl : E = 3 := by rw [hE2, if_pos h5]
    clear hp hE2 h5
    go_enter Try.func98, Try.ntmps98
    go_wp2_with fail
    go_ret
    exact ⟨rfl, rfl⟩
theorem good3_any (r c : Int) (sa : Option Addr) (n cap : Nat) (xs : List Nat) (w : World) (h : FlM w sa n cap xs) (hn : n ≤ 17592186043904) : Calls Try.prog 81 #[.agg #[.int .i64 r, .int .i64 c, .slice sa n cap]] w fun e w' => e = .returned (.int .i64 (chkM r c n xs)) ∧ Below w.heap.size w w' := by
  rw [chk_shp]
  have HB0 : Hid (Below w.heap.size w (w.alloc (MBox r c sa n cap))) := (Below.refl _ _).alloc (Nat.le_refl _) _
  obtain ⟨z0, z1, z2⟩ := mcells_of (w := w.alloc (MBox r c sa n cap)) (b := w.heap.size) (nblkM _ _)
  obtain ⟨W0, hW0⟩ : ∃ V, Hid (w.alloc (MBox r c sa n cap) = V) := ⟨_, rfl⟩
  rw [hW0.out] at HB0 z0 z1 z2
  have HF := hid (rall_any sa n cap xs W0 (h.below HB0.out) hn)
  have HS := hid (shape3_any r c n W0)
  have hW := hW0.out
  unfold MBox at hW
  obtain ⟨E, hE⟩ : ∃ E, Hid (shape3E r c n = E) := ⟨_, rfl⟩
  obtain ⟨F, hF⟩ : ∃ E, Hid (finM xs = E) := ⟨_, rfl⟩
  rw [hE.out] at HS ⊢
  rw [hF.out] at HF ⊢
  clear h hn
  go_enter Try.func81, Try.ntmps81
  go_wp2_with fail
  refine HS.out.mono ?_
  rintro e w2 ⟨rfl, rfl⟩
  by_cases h1 : E = 0
  · subst h1
    go_wp2_with fail
    refine HF.out.mono ?_
    rintro e w2 ⟨rfl, rfl⟩
    cases F with
    | false =>
      go_wp2_with fail
      go_ret
      exact ⟨rfl, HB0.out⟩
    | true =>
      go_wp2_with fail
      go_ret
      exact ⟨rfl, HB0.out⟩
  · have hne : (E != 0) = true := by simpa using h1
    go_wp2_with fail
    go_ret
    exact ⟨by simp, HB0.out⟩
end Go.Proofs.Ythakhmnlpmfdgaa
