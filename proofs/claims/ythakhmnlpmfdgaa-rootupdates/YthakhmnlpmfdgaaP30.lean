
/- What MatrixPlaces wants besides: First of two, If, same; the errors told alike. -/
import Derived.Test.YthakhmnlpmfdgaaP28
import Derived.Deep.Cut
import Derived.Test.YthakhmnlpmfdgaaP29
import Derived.Test.YthakhmnlpmfdgaaP23
import Derived.Test.YthakhmnlpmfdgaaP24
namespace Go.Proofs.Ythakhmnlpmfdgaa
open Go.RowKit Go.IntWalk

def I2 (a b : Int) : Obj := .cells #[.int .i64 a, .int .i64 b] 3
theorem First_two (b : Nat) (x y : Int) (w : World) (h : w.heap[b]? = some (I2 x y)) : Calls Try.prog 24 #[.slice (some ⟨b, 0, none⟩) 2 2] w fun e w' => e = .returned (.int .i64 (firstL [x, y])) ∧ w' = w :=
  First_any b 2 [x, y] rfl (by decide) w (fun j hj => by
    unfold I2 at h
    match j, hj with
    | 0, _ => simp [World.cell?, h]
    | 1, _ => simp [World.cell?, h])
theorem If_yes (E : Int) (w : World) : Calls Try.prog 33 #[.bool true, .int .i64 E] w fun e w' => e = .returned (.int .i64 E) ∧ w' = w := If_any true E w
theorem If_no (E : Int) (w : World) : Calls Try.prog 33 #[.bool false, .int .i64 E] w fun e w' => e = .returned (.int .i64 0) ∧ w' = w := If_any false E w
theorem finB_exp (x : Nat) (hx : x < 18446744073709551616) : (!(expOf x == 2047)) = finB x := by
  unfold finB
  by_cases h : x % 9223372036854775808 < 9218868437227405312
  · rw [decide_eq_true h]
    unfold expOf
    rw [canq_fin h, expq_fin h]
    rfl
  · rw [decide_eq_false h]
    cases hc : (expOf x == 2047) with
    | true => rfl
    | false => exact absurd (fin_exp hx hc) h
theorem f2 (a b : Int) : firstL [a, b] = if a = 0 then b else a := by
  unfold firstL
  by_cases h : a = 0
  · rw [if_pos h, if_pos h]
    unfold firstL
    by_cases h2 : b = 0
    · rw [if_pos h2]; exact h2.symm
    · rw [if_neg h2]
  · rw [if_neg h, if_neg h]
def outE (i r : Int) : Int := if i < 0 ∨ r ≤ i then 1 else 0
theorem row_span {r c i : Int} {n : Nat} {xs : List Nat} : spanE (chkM r c n xs) r c i 0 1 0 = firstL [chkM r c n xs, outE i r] := by
  rw [f2]
  unfold spanE outE
  by_cases hE : chkM r c n xs = 0
  · obtain ⟨R, C, rfl, rfl, h1, h2, _, _⟩ := chk_some hE
    rw [if_neg (fun h => h hE), if_pos hE]
    by_cases h : i < 0 ∨ (R : Int) ≤ i
    · rw [if_pos h, if_pos (by omega)]
    · rw [if_neg h, if_neg (by omega)]
  · rw [if_pos hE, if_neg hE]
theorem col_span {r c j : Int} {n : Nat} {xs : List Nat} : spanE (chkM r c n xs) r c 0 j 0 1 = firstL [chkM r c n xs, outE j c] := by
  rw [f2]
  unfold spanE outE
  by_cases hE : chkM r c n xs = 0
  · obtain ⟨R, C, rfl, rfl, h1, h2, _, _⟩ := chk_some hE
    rw [if_neg (fun h => h hE), if_pos hE]
    by_cases h : j < 0 ∨ (C : Int) ≤ j
    · rw [if_pos h, if_pos (by omega)]
    · rw [if_neg h, if_neg (by omega)]
  · rw [if_pos hE, if_neg hE]
theorem both_span {r c i j : Int} {n : Nat} {xs : List Nat} : spanE (chkM r c n xs) r c i j 1 1 = firstL [firstL [chkM r c n xs, outE i r], firstL [chkM r c n xs, outE j c]] := by
  rw [f2, f2, f2]
  unfold spanE outE
  by_cases hE : chkM r c n xs = 0
  · obtain ⟨R, C, rfl, rfl, h1, h2, _, _⟩ := chk_some hE
    rw [if_neg (fun h => h hE), if_pos hE, if_pos hE]
    by_cases h : i < 0 ∨ (R : Int) ≤ i
    · rw [if_pos h, if_pos (by omega), if_neg (by decide)]
    · rw [if_neg h, if_pos rfl]
      by_cases h3 : j < 0 ∨ (C : Int) ≤ j
      · rw [if_pos h3, if_pos (by omega)]
      · rw [if_neg h3, if_neg (by omega)]
  · rw [if_pos hE, if_neg hE, if_neg hE]
theorem with_first (F : Int) (x : Nat) : withE F x = firstL [F, if finB x = true then 0 else 4] := by
  rw [f2]
  unfold withE
  by_cases h : F = 0
  · rw [if_neg (fun hc => hc h), if_pos h]
  · rw [if_pos h, if_neg h]
theorem zero_both {E a b : Int} (h : firstL [firstL [E, a], firstL [E, b]] = 0) : firstL [E, a] = 0 ∧ firstL [E, b] = 0 := by
  rw [f2] at h
  by_cases h1 : firstL [E, a] = 0
  · rw [if_pos h1] at h; exact ⟨h1, h⟩
  · rw [if_neg h1] at h; exact absurd h h1
theorem with_zero {F : Int} {x : Nat} (h : withE F x = 0) : F = 0 ∧ finB x = true := by
  unfold withE at h
  by_cases hF : F = 0
  · rw [if_neg (fun hc => hc hF)] at h
    cases hc : finB x with
    | true => exact ⟨hF, rfl⟩
    | false => rw [hc, if_neg (by decide)] at h; cases h
  · rw [if_pos hF] at h; exact absurd h hF
end Go.Proofs.Ythakhmnlpmfdgaa

namespace Go.Proofs.Ythakhmnlpmfdgaa
open Go.RowKit Go.IntWalk

/-- The numbers of a multiple. -/
def sclV (xs : List Nat) (s c : Nat) (i j : Nat) : Nat := caf .mul (canonOf (xs.getD (i * c + j) 0)) (canonOf s)
def sclT (rx cx : Int) (n : Nat) (xs : List Nat) (s : Nat) : Int := if withE (chkM rx cx n xs) s = 0 then (if finV rx.toNat cx.toNat (sclV xs s cx.toNat) = true then 0 else 5) else withE (chkM rx cx n xs) s
theorem fin_of {s : Nat} (h : finB s = true) : s % 9223372036854775808 < 9218868437227405312 := by unfold finB at h; exact of_decide_eq_true h
end Go.Proofs.Ythakhmnlpmfdgaa

namespace Go.Proofs.Ythakhmnlpmfdgaa
open Go.RowKit Go.IntWalk

/-- A variable that holds a list. -/
def SBox (sa : Option Addr) (n ka : Nat) : Obj := .cells #[.slice sa n ka] 32
theorem scell_of {w : World} {b : Nat} {sa : Option Addr} {n ka : Nat} (h : w.heap[b]? = some (SBox sa n ka)) : w.cell? ⟨b, 0, none⟩ = some (.slice sa n ka) := by
  unfold SBox at h
  simp [World.cell?, h]
theorem chkLs_any (sa sb : Option Addr) (n m ka kb : Nat) (xs ys : List Nat) (w : World) (ha : FlM w sa n ka xs) (hb : FlM w sb m kb ys) (hn : n ≤ 17592186043904) (hm : m ≤ 17592186043904) :
    Calls Try.prog 78 #[.slice sa n ka, .slice sb m kb] w fun e w' => e = .returned (.int .i64 (first2 (lstE n xs) (lstE m ys))) ∧ Below w.heap.size w w' := by
  have HA := hid (chkL_any sa n ka xs w ha hn)
  have HB := hid (fun W (hW : Below w.heap.size w W) => chkL_any sb m kb ys W (hb.below hW) hm)
  obtain ⟨E, hE⟩ : ∃ E, Hid (lstE n xs = E) := ⟨_, rfl⟩
  obtain ⟨F, hF⟩ : ∃ E, Hid (lstE m ys = E) := ⟨_, rfl⟩
  rw [hE.out] at HA
  rw [hF.out] at HB
  rw [hE.out, hF.out]
  clear ha hb hn hm
  by_cases h : E = 0
  · subst h
    show Calls _ _ _ _ (fun e w' => e = .returned (.int .i64 F) ∧ _)
    go_enter Try.func78, Try.ntmps78
    go_wp2_with fail
    refine HA.out.mono ?_
    rintro e w1 ⟨rfl, hb1⟩
    have HB1 := hid hb1
    clear hb1
    go_wp2_with fail
    refine (HB.out _ HB1.out).mono ?_
    rintro e w2 ⟨rfl, hb2⟩
    have HB2 := hid (HB1.out.trans (hb2.mono HB1.out.size))
    clear hb2
    go_wp2_with fail
    go_ret
    exact ⟨rfl, HB2.out⟩
  · have hne : (E != 0) = true := by simpa using h
    rw [show first2 E F = E from by unfold first2; rw [if_neg h]]
    clear h
    go_enter Try.func78, Try.ntmps78
    go_wp2_with fail
    refine HA.out.mono ?_
    rintro e w1 ⟨rfl, hb1⟩
    have HB1 := hid hb1
    clear hb1
    go_wp2_with fail
    go_ret
    exact ⟨rfl, HB1.out⟩
theorem lst_gd {w : World} {sa : Option Addr} {n ka : Nat} {xs : List Nat} (h : FlM w sa n ka xs) (he : lstE n xs = 0) : n ≤ 12 ∧ FnM w sa n ka (fun j => xs.getD j 0) ∧ ∀ k, k < n → xs.getD k 0 < 18446744073709551616 ∧ xs.getD k 0 % 9223372036854775808 < 9218868437227405312 := by
  obtain ⟨h1, h2⟩ := lst_zero he
  refine ⟨h1, h.fn, fun k hk => ?_⟩
  have hl := fn_lt h.fn k hk
  refine ⟨hl, fin_exp hl ?_⟩
  have := (finF_iff n (fun j => xs.getD j 0)).1 (fin_get h.1 h2) k hk
  exact this
/-- The numbers of an outer product. -/
def outV (xs ys : List Nat) (i j : Nat) : Nat := caf .mul (canonOf (xs.getD i 0)) (canonOf (ys.getD j 0))
def outT (n : Nat) (xs : List Nat) (m : Nat) (ys : List Nat) : Int := if first2 (lstE n xs) (lstE m ys) = 0 then (if finV n m (outV xs ys) = true then 0 else 5) else first2 (lstE n xs) (lstE m ys)
theorem ansN_any (x : Nat) (hx : x < 18446744073709551616) (w : World) : Calls Try.prog 79 #[.float .f64 x] w fun e w' => e = .returned (.tuple #[.float .f64 (if finB x = true then x else 0), .int .i64 (if finB x = true then 0 else 5)]) ∧ w' = w := by
  have HIS := hid (fun W => isfinq_any x W hx)
  clear hx
  cases hf : finB x with
  | true =>
    rw [hf] at HIS
    rw [if_pos rfl, if_pos rfl]
    clear hf
    go_enter Try.func79, Try.ntmps79
    go_wp2_with fail
    refine (HIS.out _).mono ?_
    rintro e ww ⟨rfl, hw⟩
    subst hw
    go_wp2_with fail
    go_ret2
    exact ⟨rfl, rfl⟩
  | false =>
    rw [hf] at HIS
    rw [if_neg (by decide), if_neg (by decide)]
    clear hf
    go_enter Try.func79, Try.ntmps79
    go_wp2_with fail
    refine (HIS.out _).mono ?_
    rintro e ww ⟨rfl, hw⟩
    subst hw
    go_wp2_with fail
    go_ret2
    exact ⟨rfl, rfl⟩
theorem finB_canon (x : Nat) : finB (canonOf x) = finB x := by
  unfold finB canonOf
  by_cases h : 9218868437227405312 < x % 9223372036854775808
  · rw [if_pos h, decide_eq_false (by decide), decide_eq_false (by omega)]
  · rw [if_neg h]
theorem canon_fin {x : Nat} (h : finB x = true) : canonOf x = x := by
  have := fin_of h
  unfold canonOf
  rw [if_neg (by omega)]
def eqE (n m : Nat) : Int := if n = m then 0 else 3
/-- What is wrong with two lists that are to be multiplied. -/
def dotE (n : Nat) (xs : List Nat) (m : Nat) (ys : List Nat) : Int := first2 (first2 (lstE n xs) (lstE m ys)) (eqE n m)
def dotW (xs ys : List Nat) (n : Nat) : Nat := dotM (fun k => xs.getD k 0) (fun k => ys.getD k 0) n
def dotT (n : Nat) (xs : List Nat) (m : Nat) (ys : List Nat) : Int := if dotE n xs m ys = 0 then (if finB (dotW xs ys n) = true then 0 else 5) else dotE n xs m ys
def dotD (n : Nat) (xs : List Nat) (m : Nat) (ys : List Nat) : Nat := if dotT n xs m ys = 0 then dotW xs ys n else 0
theorem Dot_tot (n m ka kb : Nat) (sa sb : Option Addr) (xs ys : List Nat) (w : World) (ha : FlM w sa n ka xs) (hb : FlM w sb m kb ys) (hn : n ≤ 17592186043904) (hm : m ≤ 17592186043904) :
    Calls Try.prog 54 #[.slice sa n ka, .slice sb m kb] w fun e w' => e = .returned (.tuple #[.float .f64 (dotD n xs m ys), .int .i64 (dotT n xs m ys)]) ∧ Below w.heap.size w w' := by
  have HCB := hid (chkLs_any sa sb n m ka kb xs ys w ha hb hn hm)
  by_cases h : first2 (lstE n xs) (lstE m ys) = 0
  · rw [h] at HCB
    by_cases hs : n = m
    · subst hs
      have hE : dotE n xs n ys = 0 := by unfold dotE; rw [h]; unfold eqE first2; rw [if_pos rfl, if_pos rfl]
      have HD := hid (fun W (hW : Below w.heap.size w W) => dot_any sa sb n ka kb _ _ W hn (ha.below hW).fn (hb.below hW).fn)
      have hT : dotT n xs n ys = if finB (dotW xs ys n) = true then 0 else 5 := by unfold dotT; rw [if_pos hE]
      have hDD : dotD n xs n ys = if finB (dotW xs ys n) = true then dotW xs ys n else 0 := by
        unfold dotD
        rw [hT]
        cases finB (dotW xs ys n) <;> rfl
      rw [hT, hDD]
      have hnn : ((n : Int) != (n : Int)) = false := by simp
      have HAN := hid (fun x (hx : x < 18446744073709551616) W => ansN_any x hx W)
      clear ha hb hn hm h hE hT hDD
      cases hf : finB (dotW xs ys n) with
      | true =>
        have HFF := hid hf
        clear hf
        rw [if_pos rfl, if_pos rfl]
        go_enter Try.func54, Try.ntmps54
        go_wp2_with fail
        refine HCB.out.mono ?_
        rintro e w1 ⟨rfl, hb1⟩
        have HB1 := hid hb1
        clear hb1
        go_wp2_with fail
        refine (HD.out _ HB1.out).mono ?_
        rintro e w2 ⟨z, rfl, ⟨hz1, hz2⟩, hb2⟩
        have HB2 := hid (HB1.out.trans (hb2.mono HB1.out.size))
        have e1 : canonOf z = dotW xs ys n := hz2
        have hfz : finB z = true := by rw [← finB_canon, e1]; exact HFF.out
        have HA1 := hid (HAN.out z hz1)
        rw [hfz, if_pos rfl, if_pos rfl] at HA1
        rw [canon_fin hfz] at e1
        have HE1 := hid e1
        clear e1
        clear hb2 hz1 hz2 hfz
        go_wp2_with fail
        refine (HA1.out _).mono ?_
        rintro e w3 ⟨rfl, hw⟩
        subst hw
        go_wp2_with fail
        go_ret2
        exact ⟨by have h := HE1.out; subst h; rfl, HB2.out⟩
      | false =>
        have HFF := hid hf
        clear hf
        rw [if_neg (by decide), if_neg (by decide)]
        go_enter Try.func54, Try.ntmps54
        go_wp2_with fail
        refine HCB.out.mono ?_
        rintro e w1 ⟨rfl, hb1⟩
        have HB1 := hid hb1
        clear hb1
        go_wp2_with fail
        refine (HD.out _ HB1.out).mono ?_
        rintro e w2 ⟨z, rfl, ⟨hz1, hz2⟩, hb2⟩
        have HB2 := hid (HB1.out.trans (hb2.mono HB1.out.size))
        have e1 : canonOf z = dotW xs ys n := hz2
        have hfz : finB z = false := by rw [← finB_canon, e1]; exact HFF.out
        have HA1 := hid (HAN.out z hz1)
        rw [hfz, if_neg (by decide), if_neg (by decide)] at HA1
        clear e1
        clear hb2 hz1 hz2 hfz
        go_wp2_with fail
        refine (HA1.out _).mono ?_
        rintro e w3 ⟨rfl, hw⟩
        subst hw
        go_wp2_with fail
        go_ret2
        exact ⟨rfl, HB2.out⟩
    · have hE : dotE n xs m ys = 3 := by unfold dotE; rw [h]; unfold eqE first2; rw [if_pos rfl, if_neg hs]
      have hT : dotT n xs m ys = 3 := by unfold dotT; rw [hE, if_neg (by decide)]
      have hDD : dotD n xs m ys = 0 := by unfold dotD; rw [hT, if_neg (by decide)]
      rw [hT, hDD]
      have hnn : ((n : Int) != (m : Int)) = true := by simp; omega
      clear ha hb hn hm h hE hT hDD hs
      go_enter Try.func54, Try.ntmps54
      go_wp2_with fail
      refine HCB.out.mono ?_
      rintro e w1 ⟨rfl, hb1⟩
      have HB1 := hid hb1
      clear hb1
      go_wp2_with fail
      go_ret2
      exact ⟨rfl, HB1.out⟩
  · have hE : dotE n xs m ys = first2 (lstE n xs) (lstE m ys) := by
      unfold dotE
      generalize first2 (lstE n xs) (lstE m ys) = F at h
      unfold first2
      rw [if_neg h]
    have hT : dotT n xs m ys = first2 (lstE n xs) (lstE m ys) := by unfold dotT; rw [hE, if_neg h]
    have hDD : dotD n xs m ys = 0 := by unfold dotD; rw [hT, if_neg h]
    rw [hT, hDD]
    obtain ⟨E, hEE⟩ : ∃ E, Hid (first2 (lstE n xs) (lstE m ys) = E) := ⟨_, rfl⟩
    rw [hEE.out] at HCB h ⊢
    have hne : (E != 0) = true := by simpa using h
    clear ha hb hn hm h hE hT hDD
    go_enter Try.func54, Try.ntmps54
    go_wp2_with fail
    refine HCB.out.mono ?_
    rintro e w1 ⟨rfl, hb1⟩
    have HB1 := hid hb1
    clear hb1
    go_wp2_with fail
    go_ret2
    exact ⟨rfl, HB1.out⟩
end Go.Proofs.Ythakhmnlpmfdgaa

namespace Go.Proofs.Ythakhmnlpmfdgaa
open Go.RowKit Go.IntWalk

end Go.Proofs.Ythakhmnlpmfdgaa

namespace Go.Proofs.Ythakhmnlpmfdgaa
open Go.RowKit Go.IntWalk

/-- The sum in order of a diagonal. -/
def trM (f : Nat → Nat) (c : Nat) : Nat → Nat
  | 0 => 0
  | k + 1 => caf .add (trM f c k) (canonOf (f (k * c + k)))
end Go.Proofs.Ythakhmnlpmfdgaa

namespace Go.Proofs.Ythakhmnlpmfdgaa
open Go.RowKit Go.IntWalk

def lowB (c : Nat) (f : Nat → Nat) : Bool := (List.range c).all fun i => (List.range c).all fun j => !(decide (i < j)) || canonOf (f (i * c + j)) == 0
theorem low_iff (c : Nat) (f : Nat → Nat) : lowB c f = true ↔ ∀ i j, i < c → j < c → i < j → canonOf (f (i * c + j)) = 0 := by
  unfold lowB
  rw [List.all_eq_true]
  constructor
  · intro h i j hi hj hij
    have h1 := h i (List.mem_range.2 hi)
    rw [List.all_eq_true] at h1
    have h2 := h1 j (List.mem_range.2 hj)
    simpa [hij] using h2
  · intro h i hi
    rw [List.all_eq_true]
    intro j hj
    by_cases hij : i < j
    · simp [hij, h i j (List.mem_range.1 hi) (List.mem_range.1 hj) hij]
    · simp [hij]
theorem low_no {c : Nat} {f : Nat → Nat} {i j : Nat} (hi : i < c) (hj : j < c) (hij : i < j) (h : ¬ canonOf (f (i * c + j)) = 0) : lowB c f = false := by
  cases hc : lowB c f with
  | false => rfl
  | true => exact absurd ((low_iff c f).1 hc i j hi hj hij) h
set_option maxRecDepth 4000 in
set_option maxHeartbeats 1000000 in
theorem Lower_ok (c n : Nat) (sa : Option Addr) (ka : Nat) (f : Nat → Nat) (w : World) (ha : Gd w c c sa n ka f) :
    Calls Try.prog 48 #[.agg #[.int .i64 c, .int .i64 c, .slice sa n ka]] w fun e w' => e = .returned (.bool (lowB c f)) ∧ Below w.heap.size w w' := by
  have HSQ := hid (fun W (hW : Below w.heap.size w W) => square_good c c n sa ka f W (ha.below hW))
  rw [if_pos rfl] at HSQ
  unfold MV at HSQ
  have l1 := ha.1
  have HAT : Hid (∀ W i j, Below w.heap.size w W → i < c → j < c → Calls Try.prog 72 #[.agg #[.int .i64 c, .int .i64 c, .slice sa n ka], .int .i64 (i : Nat), .int .i64 (j : Nat)] W fun e w' => e = .returned (.float .f64 (f (i * c + j))) ∧ Below W.heap.size W w') := fun W i j hW hi hj => at_fn c sa c n ka i j f W (ha.below hW).2.2.2.1 (by omega) (by omega) (by omega) (by rw [ha.2.2.1]; exact place_lt hi hj)
  have HFX : Hid (∀ i j, i < c → j < c → f (i * c + j) < 18446744073709551616 ∧ canonOf (f (i * c + j)) = f (i * c + j)) := fun i j hi hj => by
    have := gd_fin ha (i * c + j) (place_lt hi hj)
    exact ⟨this.1, canon_fin (by unfold finB; exact decide_eq_true this.2)⟩
  have HB0 : Hid (Below w.heap.size w (w.alloc (MBox c c sa n ka))) := (Below.refl _ _).alloc (Nat.le_refl _) _
  have HX0 : Hid ((w.alloc (MBox c c sa n ka)).heap[w.heap.size]? = some (MBox c c sa n ka)) := nblkM _ _
  obtain ⟨V, hV⟩ : ∃ V, Hid (w.alloc (MBox c c sa n ka) = V) := ⟨_, rfl⟩
  rw [hV.out] at HB0 HX0
  have hV' := hV.out
  unfold MBox at hV'
  obtain ⟨p0, hp0⟩ : ∃ t, Hid (w.heap.size = t) := ⟨_, rfl⟩
  rw [hp0.out] at HX0
  have hp0' := hp0.out
  obtain ⟨x0, x1, x2⟩ := mcells_of HX0.out
  have HL := hid l1
  obtain ⟨D, hD⟩ : ∃ D, Hid (lowB c f = D) := ⟨_, rfl⟩
  rw [hD.out]
  clear ha
  go_enter Try.func48, Try.ntmps48
  go_wp2_with fail
  refine (HSQ.out _ HB0.out).mono ?_
  rintro e w1 ⟨rfl, hb1⟩
  have HB1 := hid (HB0.out.trans (hb1.mono HB0.out.size))
  have HX1 := hid (blkM HX0.out hb1)
  obtain ⟨x0, x1, x2⟩ := mcells_of HX1.out
  clear hb1
  go_wp2_with fail
  go_loopw [10] (fun iv wr => ∃ i : Nat, i ≤ c ∧ iv = .int .i64 i ∧ Hid (∀ a b, a < i → b < c → a < b → canonOf (f (a * c + b)) = 0) ∧ Hid (Below w.heap.size w wr) ∧ Hid (wr.heap[p0]? = some (MBox c c sa n ka))) (fun iv _ => c - (intOf iv).toNat)
  case atStart => exact ⟨0, Nat.zero_le _, rfl, fun a b h => absurd h (Nat.not_lt_zero a), HB1, HX1⟩
  case round =>
    obtain ⟨i, hi, rfl, HP, HBW, HXW⟩ := hrel
    obtain ⟨x0, x1, x2⟩ := mcells_of HXW.out
    have l2 := HL.out
    by_cases hlt : i < c
    · have hiI : (i : Int) < (c : Int) := by omega
      have HI := hid hlt
      clear hlt
      go_wp2_with fail
      go_loopw [15] (fun jv wr2 => ∃ j : Nat, 0 ≤ j ∧ j ≤ c ∧ jv = .int .i64 j ∧ Hid (∀ a b, (a < i ∨ (a = i ∧ b < j)) → b < c → a < b → canonOf (f (a * c + b)) = 0) ∧ Hid (Below w.heap.size w wr2) ∧ Hid (wr2.heap[p0]? = some (MBox c c sa n ka))) (fun jv _ => c - (intOf jv).toNat)
      case atStart => exact ⟨0, Nat.le_refl _, by have := HI.out; omega, by go_num, fun a b hab hb h => HP.out a b (by rcases hab with h1 | ⟨h1, h2⟩ <;> omega) hb h, HBW, HXW⟩
      case round =>
        obtain ⟨j, hj0, hj, rfl, HP2, HBW2, HXW2⟩ := hrel
        obtain ⟨x0, x1, x2⟩ := mcells_of HXW2.out
        by_cases hl2 : j < c
        · have hjI : (j : Int) < (c : Int) := by omega
          have HJ := hid hl2
          have HJ0 := hid hj0
          clear hl2
          by_cases hij : i < j
          · have hijI : (i : Int) < (j : Int) := by omega
            have HIJ := hid hij
            clear hij
            go_wp2_with fail
            refine (HAT.out _ i j HBW2.out HI.out HJ.out).mono ?_
            rintro e w1 ⟨rfl, hb1⟩
            have HB1 := hid (HBW2.out.trans (hb1.mono HBW2.out.size))
            have HX1 := hid (blkM HXW2.out hb1)
            have HV := hid (HFX.out i j HI.out HJ.out)
            by_cases hz : canonOf (f (i * c + j)) = 0
            · have HSM : Hid (∀ W, Calls Try.prog 71 #[.float .f64 (f (i * c + j)), .float .f64 0] W fun e w' => e = .returned (.bool true) ∧ Below W.heap.size W w') := fun W => by
                have := Same_any (f (i * c + j)) 0 W HV.out.1 (by decide)
                rw [show (canonOf (f (i * c + j)) == canonOf 0) = true from by rw [hz]; decide] at this
                exact this
              have HZZ := hid hz
              obtain ⟨y, hy⟩ : ∃ t, Hid (f (i * c + j) = t) := ⟨_, rfl⟩
              rw [hy.out] at HSM ⊢
              clear hb1 hz
              go_wp2_with fail
              refine (HSM.out _).mono ?_
              rintro e w2 ⟨rfl, hb2⟩
              have HB2 := hid (HB1.out.trans (hb2.mono HB1.out.size))
              have HX2 := hid (blkM HX1.out hb2)
              clear hb2
              go_wp2_with fail
              have hj1 := HJ.out
              refine ⟨⟨j + 1, by omega, by omega, by go_num, fun a b hab hb h => ?_, HB2, HX2⟩, ?_⟩
              · by_cases hbj : a = i ∧ b = j
                · obtain ⟨ea, eb⟩ := hbj
                  subst ea eb
                  exact HZZ.out
                · exact HP2.out a b (by rcases hab with h1 | ⟨h1, h2⟩ <;> omega) hb h
              · simp [intOf]; omega
            · have HSM : Hid (∀ W, Calls Try.prog 71 #[.float .f64 (f (i * c + j)), .float .f64 0] W fun e w' => e = .returned (.bool false) ∧ Below W.heap.size W w') := fun W => by
                have := Same_any (f (i * c + j)) 0 W HV.out.1 (by decide)
                rw [show (canonOf (f (i * c + j)) == canonOf 0) = false from by rw [show canonOf 0 = 0 by decide]; simpa using hz] at this
                exact this
              have HZZ := hid hz
              obtain ⟨y, hy⟩ : ∃ t, Hid (f (i * c + j) = t) := ⟨_, rfl⟩
              rw [hy.out] at HSM ⊢
              clear hb1 hz
              go_wp2_with fail
              refine (HSM.out _).mono ?_
              rintro e w2 ⟨rfl, hb2⟩
              have HB2 := hid (HB1.out.trans (hb2.mono HB1.out.size))
              have HX2 := hid (blkM HX1.out hb2)
              clear hb2
              go_wp2_with fail
              have HT : Hid (lowB c f = false) := low_no HI.out HJ.out HIJ.out HZZ.out
              go_ret
              exact ⟨by have h1 := hD.out; rw [HT.out] at h1; subst h1; rfl, by first | exact HB2.out | (rw [← hp0.out]; exact HB2.out)⟩
          · have hijI : ¬ (i : Int) < (j : Int) := by omega
            have HIJ := hid hij
            clear hij
            go_wp2_with fail
            have hj1 := HJ.out
            refine ⟨⟨j + 1, by omega, by omega, by go_num, fun a b hab hb h => ?_, HBW2, HXW2⟩, ?_⟩
            · by_cases hbj : a = i ∧ b = j
              · obtain ⟨ea, eb⟩ := hbj
                subst ea eb
                exact absurd h HIJ.out
              · exact HP2.out a b (by rcases hab with h1 | ⟨h1, h2⟩ <;> omega) hb h
            · simp [intOf]; omega

        · obtain rfl : j = c := by omega
          go_wp2_with fail
          have hi1 := HI.out
          refine ⟨⟨i + 1, by omega, by go_num, fun a b ha hb h => HP2.out a b (by omega) hb h, HBW2, HXW2⟩, ?_⟩
          simp [intOf]; omega
    · obtain rfl : i = c := by omega
      have HT : Hid (lowB i f = true) := (low_iff i f).2 (fun a b ha hb h => HP.out a b ha hb h)
      go_wp2_with fail
      go_ret
      exact ⟨by have h1 := hD.out; rw [HT.out] at h1; subst h1; rfl, by first | exact HBW.out | (rw [← hp0.out]; exact HBW.out)⟩
end Go.Proofs.Ythakhmnlpmfdgaa

namespace Go.Proofs.Ythakhmnlpmfdgaa
open Go.RowKit Go.IntWalk

set_option maxHeartbeats 1000000 in
theorem SameL_all (sa sb : Option Addr) (n ca cb : Nat) (f g : Nat → Nat) (w : World) (ha : FnM w sa n ca f) (hb : FnM w sb n cb g) :
    Calls Try.prog 64 #[.slice sa n ca, .slice sb n cb] w fun e w' => e = .returned (.bool (eqF n f g)) ∧ Below w.heap.size w w' := by
  have hne : ((n : Int) != (n : Int)) = false := by simp
  have HA := hid ha
  have HB := hid hb
  obtain ⟨D, hD⟩ : ∃ D, Hid (eqF n f g = D) := ⟨_, rfl⟩
  rw [hD.out]
  clear ha hb
  go_enter Try.func64, Try.ntmps64
  go_wp2_with fail
  go_loopw [13] (fun iv wr => ∃ k : Nat, k ≤ n ∧ iv = .int .i64 k ∧ Hid (Below w.heap.size w wr) ∧ Hid (∀ j, j < k → canonOf (f j) = canonOf (g j))) (fun iv _ => n - (intOf iv).toNat)
  case atStart => exact ⟨0, Nat.zero_le _, rfl, Below.refl _ _, fun j hj => absurd hj (Nat.not_lt_zero j)⟩
  case round =>
    obtain ⟨k, hk, rfl, HBW, HP⟩ := hrel
    by_cases hlt : k < n
    · rcases HA.out with ⟨_, h2, _⟩ | ⟨b, off, rfl, q1, _, _, q4⟩
      · omega
      rcases HB.out with ⟨_, h2, _⟩ | ⟨b2, off2, rfl, q5, _, _, q8⟩
      · omega
      have HKS : Hid (∀ W, Hid (Below w.heap.size w W) → (W.cell? ⟨b, off + k, none⟩ = some (.float .f64 (f k)) ∧ W.cell? ⟨b2, off2 + k, none⟩ = some (.float .f64 (g k))) ∧ Hid (Below w.heap.size w W)) := fun W hW => ⟨⟨(hW.out.cell (p := ⟨b, off + k, none⟩) q1).trans (q4 k hlt).1, (hW.out.cell (p := ⟨b2, off2 + k, none⟩) q5).trans (q8 k hlt).1⟩, hW⟩
      by_cases heq : canonOf (f k) = canonOf (g k)
      · have HSM : Hid (∀ W, Calls Try.prog 83 #[.float .f64 (f k), .float .f64 (g k)] W fun e w' => e = .returned (.bool true) ∧ w' = W) := fun W => by
          have := rsameM_any (f k) (g k) W (q4 k hlt).2 (q8 k hlt).2
          rw [heq] at this
          simpa using this
        obtain ⟨x, hxx⟩ : ∃ x, Hid (f k = x) := ⟨_, rfl⟩
        obtain ⟨y, hyy⟩ : ∃ y, Hid (g k = y) := ⟨_, rfl⟩
        rw [hxx.out, hyy.out] at HKS HSM
        have hkI : (k : Int) < (n : Int) := by omega
        have hk0 : (0 : Int) ≤ (k : Int) := by omega
        have HQ0 : Hid (Below w.heap.size w wr.drew) := HBW.out.drew
        have HK := hid hlt
        have HEQ := hid heq
        clear q1 q4 q5 q8 hlt heq
        go_wp2_with fail
        refine wp_region_held_drew (S := fun W => (W.cell? ⟨b, off + k, none⟩ = some (.float .f64 x) ∧ W.cell? ⟨b2, off2 + k, none⟩ = some (.float .f64 y)) ∧ Hid (Below w.heap.size w W)) (by kernel_rfl) (HKS.out _ HQ0) (fun hHeld => ?_)
        refine take_at 0 16 (.slice (some ⟨b, off, none⟩) n ca) rfl rfl (by kernel_rfl) (by kernel_rfl) (by kernel_rfl) (fun _ _ _ h => h) (Or.inl ⟨by rfl, fun w hSw => by (try dsimp only at hSw); go_simp⟩) (by assumption) ?_
        simp only [Act.put, List.setIfInBounds_toArray, List.set_cons_zero, List.set_cons_succ]
        refine take_at 1 17 (.int .i64 k) rfl rfl (by kernel_rfl) (by kernel_rfl) (by kernel_rfl) (fun _ _ _ h => h) (Or.inl ⟨by rfl, fun w hSw => by (try dsimp only at hSw); go_simp⟩) (by assumption) ?_
        simp only [Act.put, List.setIfInBounds_toArray, List.set_cons_zero, List.set_cons_succ]
        refine take_at 2 18 (.pointer (some ⟨b, off + k, none⟩)) rfl rfl (by kernel_rfl) (by kernel_rfl) (by kernel_rfl) (fun _ _ _ h => h) (Or.inl ⟨by rfl, fun w hSw => by (try dsimp only at hSw); go_simp⟩) (by assumption) ?_
        simp only [Act.put, List.setIfInBounds_toArray, List.set_cons_zero, List.set_cons_succ]
        refine take_at 3 19 (.float .f64 x) rfl rfl (by kernel_rfl) (by kernel_rfl) (by kernel_rfl) (fun _ _ _ h => h) (Or.inl ⟨by rfl, fun w hSw => by (try dsimp only at hSw); go_simp⟩) (by assumption) ?_
        simp only [Act.put, List.setIfInBounds_toArray, List.set_cons_zero, List.set_cons_succ]
        refine take_at 4 20 (.slice (some ⟨b2, off2, none⟩) n cb) rfl rfl (by kernel_rfl) (by kernel_rfl) (by kernel_rfl) (fun _ _ _ h => h) (Or.inl ⟨by rfl, fun w hSw => by (try dsimp only at hSw); go_simp⟩) (by assumption) ?_
        simp only [Act.put, List.setIfInBounds_toArray, List.set_cons_zero, List.set_cons_succ]
        refine take_at 5 21 (.int .i64 k) rfl rfl (by kernel_rfl) (by kernel_rfl) (by kernel_rfl) (fun _ _ _ h => h) (Or.inl ⟨by rfl, fun w hSw => by (try dsimp only at hSw); go_simp⟩) (by assumption) ?_
        simp only [Act.put, List.setIfInBounds_toArray, List.set_cons_zero, List.set_cons_succ]
        refine take_at 6 22 (.pointer (some ⟨b2, off2 + k, none⟩)) rfl rfl (by kernel_rfl) (by kernel_rfl) (by kernel_rfl) (fun _ _ _ h => h) (Or.inl ⟨by rfl, fun w hSw => by (try dsimp only at hSw); go_simp⟩) (by assumption) ?_
        simp only [Act.put, List.setIfInBounds_toArray, List.set_cons_zero, List.set_cons_succ]
        refine take_at 7 23 (.float .f64 y) rfl rfl (by kernel_rfl) (by kernel_rfl) (by kernel_rfl) (fun _ _ _ h => h) (Or.inl ⟨by rfl, fun w hSw => by (try dsimp only at hSw); go_simp⟩) (by assumption) ?_
        simp only [Act.put, List.setIfInBounds_toArray, List.set_cons_zero, List.set_cons_succ]
        refine wpAnyH_ready (rs := [8]) (by kernel_rfl) (by simp) ?_
        refine AllReadyH.cons (o := _) rfl (fun K hK => ?_) AllReadyH.nil
        go_simp
        refine (HSM.out _).mono ?_
        rintro e u1 ⟨rfl, rfl⟩
        go_wp2_with fail
        refine hK.out _ _ (HKS.out _ HQ0) (fun hHeld1 => ?_)
        clear hK K
        try simp only [Act.put, List.setIfInBounds_toArray, List.set_cons_zero, List.set_cons_succ]
        refine take_at 9 25 (.bool false) rfl rfl (by kernel_rfl) (by kernel_rfl) (by kernel_rfl) (fun _ _ _ h => h) (Or.inl ⟨by rfl, fun w hSw => by (try dsimp only at hSw); go_simp⟩) (by assumption) ?_
        simp only [Act.put, List.setIfInBounds_toArray, List.set_cons_zero, List.set_cons_succ]
        refine wpAnyH_done (by kernel_rfl) ?_ _
        go_wp2_with fail
        have hk1 := HK.out
        refine ⟨⟨k + 1, by omega, by go_num, HQ0, fun j hj => by
          by_cases hjk : j = k
          · subst hjk; exact HEQ.out
          · exact HP.out j (by omega)⟩, ?_⟩
        simp [intOf]; omega
      · have HSM : Hid (∀ W, Calls Try.prog 83 #[.float .f64 (f k), .float .f64 (g k)] W fun e w' => e = .returned (.bool false) ∧ w' = W) := fun W => by
          have := rsameM_any (f k) (g k) W (q4 k hlt).2 (q8 k hlt).2
          rw [show (canonOf (f k) == canonOf (g k)) = false by simpa using heq] at this
          exact this
        obtain ⟨x, hxx⟩ : ∃ x, Hid (f k = x) := ⟨_, rfl⟩
        obtain ⟨y, hyy⟩ : ∃ y, Hid (g k = y) := ⟨_, rfl⟩
        rw [hxx.out, hyy.out] at HKS HSM
        have hkI : (k : Int) < (n : Int) := by omega
        have hk0 : (0 : Int) ≤ (k : Int) := by omega
        have HQ0 : Hid (Below w.heap.size w wr.drew) := HBW.out.drew
        have HK := hid hlt
        have HT : Hid (eqF n f g = false) := eqF_no hlt heq
        clear q1 q4 q5 q8 hlt heq
        go_wp2_with fail
        refine wp_region_held_drew (S := fun W => (W.cell? ⟨b, off + k, none⟩ = some (.float .f64 x) ∧ W.cell? ⟨b2, off2 + k, none⟩ = some (.float .f64 y)) ∧ Hid (Below w.heap.size w W)) (by kernel_rfl) (HKS.out _ HQ0) (fun hHeld => ?_)
        refine take_at 0 16 (.slice (some ⟨b, off, none⟩) n ca) rfl rfl (by kernel_rfl) (by kernel_rfl) (by kernel_rfl) (fun _ _ _ h => h) (Or.inl ⟨by rfl, fun w hSw => by (try dsimp only at hSw); go_simp⟩) (by assumption) ?_
        simp only [Act.put, List.setIfInBounds_toArray, List.set_cons_zero, List.set_cons_succ]
        refine take_at 1 17 (.int .i64 k) rfl rfl (by kernel_rfl) (by kernel_rfl) (by kernel_rfl) (fun _ _ _ h => h) (Or.inl ⟨by rfl, fun w hSw => by (try dsimp only at hSw); go_simp⟩) (by assumption) ?_
        simp only [Act.put, List.setIfInBounds_toArray, List.set_cons_zero, List.set_cons_succ]
        refine take_at 2 18 (.pointer (some ⟨b, off + k, none⟩)) rfl rfl (by kernel_rfl) (by kernel_rfl) (by kernel_rfl) (fun _ _ _ h => h) (Or.inl ⟨by rfl, fun w hSw => by (try dsimp only at hSw); go_simp⟩) (by assumption) ?_
        simp only [Act.put, List.setIfInBounds_toArray, List.set_cons_zero, List.set_cons_succ]
        refine take_at 3 19 (.float .f64 x) rfl rfl (by kernel_rfl) (by kernel_rfl) (by kernel_rfl) (fun _ _ _ h => h) (Or.inl ⟨by rfl, fun w hSw => by (try dsimp only at hSw); go_simp⟩) (by assumption) ?_
        simp only [Act.put, List.setIfInBounds_toArray, List.set_cons_zero, List.set_cons_succ]
        refine take_at 4 20 (.slice (some ⟨b2, off2, none⟩) n cb) rfl rfl (by kernel_rfl) (by kernel_rfl) (by kernel_rfl) (fun _ _ _ h => h) (Or.inl ⟨by rfl, fun w hSw => by (try dsimp only at hSw); go_simp⟩) (by assumption) ?_
        simp only [Act.put, List.setIfInBounds_toArray, List.set_cons_zero, List.set_cons_succ]
        refine take_at 5 21 (.int .i64 k) rfl rfl (by kernel_rfl) (by kernel_rfl) (by kernel_rfl) (fun _ _ _ h => h) (Or.inl ⟨by rfl, fun w hSw => by (try dsimp only at hSw); go_simp⟩) (by assumption) ?_
        simp only [Act.put, List.setIfInBounds_toArray, List.set_cons_zero, List.set_cons_succ]
        refine take_at 6 22 (.pointer (some ⟨b2, off2 + k, none⟩)) rfl rfl (by kernel_rfl) (by kernel_rfl) (by kernel_rfl) (fun _ _ _ h => h) (Or.inl ⟨by rfl, fun w hSw => by (try dsimp only at hSw); go_simp⟩) (by assumption) ?_
        simp only [Act.put, List.setIfInBounds_toArray, List.set_cons_zero, List.set_cons_succ]
        refine take_at 7 23 (.float .f64 y) rfl rfl (by kernel_rfl) (by kernel_rfl) (by kernel_rfl) (fun _ _ _ h => h) (Or.inl ⟨by rfl, fun w hSw => by (try dsimp only at hSw); go_simp⟩) (by assumption) ?_
        simp only [Act.put, List.setIfInBounds_toArray, List.set_cons_zero, List.set_cons_succ]
        refine wpAnyH_ready (rs := [8]) (by kernel_rfl) (by simp) ?_
        refine AllReadyH.cons (o := _) rfl (fun K hK => ?_) AllReadyH.nil
        go_simp
        refine (HSM.out _).mono ?_
        rintro e u1 ⟨rfl, rfl⟩
        go_wp2_with fail
        refine hK.out _ _ (HKS.out _ HQ0) (fun hHeld1 => ?_)
        clear hK K
        try simp only [Act.put, List.setIfInBounds_toArray, List.set_cons_zero, List.set_cons_succ]
        refine take_at 9 25 (.bool true) rfl rfl (by kernel_rfl) (by kernel_rfl) (by kernel_rfl) (fun _ _ _ h => h) (Or.inl ⟨by rfl, fun w hSw => by (try dsimp only at hSw); go_simp⟩) (by assumption) ?_
        simp only [Act.put, List.setIfInBounds_toArray, List.set_cons_zero, List.set_cons_succ]
        refine wpAnyH_done (by kernel_rfl) ?_ _
        go_wp2_with fail
        go_ret
        exact ⟨by have h1 := hD.out; rw [HT.out] at h1; subst h1; rfl, HQ0.out⟩
    · obtain rfl : k = n := by omega
      have HT : Hid (eqF k f g = true) := (eqF_iff k f g).2 HP.out
      go_wp2_with fail
      go_ret
      exact ⟨by have h1 := hD.out; rw [HT.out] at h1; subst h1; rfl, HBW.out⟩
theorem SameL_len (sa sb : Option Addr) (n m ca cb : Nat) (w : World) (hs : n ≠ m) :
    Calls Try.prog 64 #[.slice sa n ca, .slice sb m cb] w fun e w' => e = .returned (.bool false) ∧ Below w.heap.size w w' := by
  have hne : ((n : Int) != (m : Int)) = true := by simp; omega
  clear hs
  go_enter Try.func64, Try.ntmps64
  go_wp2_with fail
  go_ret
  exact ⟨rfl, Below.refl _ _⟩
/-- Whether two matrices are alike. -/
def eqT (rx cx : Int) (n : Nat) (xs : List Nat) (ry cy : Int) (m : Nat) (ys : List Nat) : Bool := decide (rx = ry) && (decide (cx = cy) && (decide (n = m) && eqF n (fun j => xs.getD j 0) (fun j => ys.getD j 0)))
theorem eqT_self (rx cx : Int) (n : Nat) (xs : List Nat) : eqT rx cx n xs rx cx n xs = true := by
  unfold eqT
  rw [decide_eq_true rfl, decide_eq_true rfl, decide_eq_true rfl]
  exact (eqF_iff n _ _).2 (fun k _ => rfl)
theorem sym_low (c : Nat) (f : Nat → Nat) : symB c c f = true ↔ ∀ i j, i < c → j < i → canonOf (f (i * c + j)) = canonOf (f (j * c + i)) := by
  rw [symB_iff]
  constructor
  · exact fun h i j hi hj => h i j hi (by omega)
  · intro h i j hi hj
    rcases Nat.lt_trichotomy i j with q | q | q
    · exact (h j i hj q).symm
    · rw [q]
    · exact h i j hi q
theorem sym_no {c : Nat} {f : Nat → Nat} {i j : Nat} (hi : i < c) (hj : j < c) (h : ¬ canonOf (f (i * c + j)) = canonOf (f (j * c + i))) : symB c c f = false := by
  cases hc : symB c c f with
  | false => rfl
  | true => exact absurd ((symB_iff c f).1 hc i j hi hj) h
end Go.Proofs.Ythakhmnlpmfdgaa
