
/- What MatrixPlaces wants besides: First of two, If, same; the errors told alike. -/
import Derived.Test.YtglgjkhfoajflaaP32
import Derived.Deep.Cut
import Derived.Test.YtglgjkhfoajflaaP33
namespace Go.Proofs.Ytglgjkhfoajflaa
open Go.RowKit Go.IntWalk

def I2 (a b : Int) : Obj := .cells #[.int .i64 a, .int .i64 b] 3
theorem First_two (b : Nat) (x y : Int) (w : World) (h : w.heap[b]? = some (I2 x y)) : Calls Try.prog 27 #[.slice (some ⟨b, 0, none⟩) 2 2] w fun e w' => e = .returned (.int .i64 (firstL [x, y])) ∧ w' = w :=
  First_any b 2 [x, y] rfl (by decide) w (fun j hj => by
    unfold I2 at h
    match j, hj with
    | 0, _ => simp [World.cell?, h]
    | 1, _ => simp [World.cell?, h])
theorem If_yes (E : Int) (w : World) : Calls Try.prog 36 #[.bool true, .int .i64 E] w fun e w' => e = .returned (.int .i64 E) ∧ w' = w := If_any true E w
theorem If_no (E : Int) (w : World) : Calls Try.prog 36 #[.bool false, .int .i64 E] w fun e w' => e = .returned (.int .i64 0) ∧ w' = w := If_any false E w
theorem finB_exp (x : Nat) (hx : x < 18446744073709551616) : (!(expOf x == 2047)) = finB x := by
  unfold finB
  by_cases h : x % 9223372036854775808 < 9218868437227405312
  · rw [decide_eq_true h]
    unfold expOf
    rw [canq_fin h, expq_fin h]
    rfl
  · rw [decide_eq_false h]
    cases hc : (expOf x == 2047) with
    | true => rfl
    | false => exact absurd (fin_exp hx hc) h
theorem f2 (a b : Int) : firstL [a, b] = if a = 0 then b else a := by
  unfold firstL
  by_cases h : a = 0
  · rw [if_pos h, if_pos h]
    unfold firstL
    by_cases h2 : b = 0
    · rw [if_pos h2]; exact h2.symm
    · rw [if_neg h2]
  · rw [if_neg h, if_neg h]
def outE (i r : Int) : Int := if i < 0 ∨ r ≤ i then 1 else 0
theorem row_span {r c i : Int} {n : Nat} {xs : List Nat} : spanE (chkM r c n xs) r c i 0 1 0 = firstL [chkM r c n xs, outE i r] := by
  rw [f2]
  unfold spanE outE
  by_cases hE : chkM r c n xs = 0
  · obtain ⟨R, C, rfl, rfl, h1, h2, _, _⟩ := chk_some hE
    rw [if_neg (fun h => h hE), if_pos hE]
    by_cases h : i < 0 ∨ (R : Int) ≤ i
    · rw [if_pos h, if_pos (by omega)]
    · rw [if_neg h, if_neg (by omega)]
  · rw [if_pos hE, if_neg hE]
theorem col_span {r c j : Int} {n : Nat} {xs : List Nat} : spanE (chkM r c n xs) r c 0 j 0 1 = firstL [chkM r c n xs, outE j c] := by
  rw [f2]
  unfold spanE outE
  by_cases hE : chkM r c n xs = 0
  · obtain ⟨R, C, rfl, rfl, h1, h2, _, _⟩ := chk_some hE
    rw [if_neg (fun h => h hE), if_pos hE]
    by_cases h : j < 0 ∨ (C : Int) ≤ j
    · rw [if_pos h, if_pos (by omega)]
    · rw [if_neg h, if_neg (by omega)]
  · rw [if_pos hE, if_neg hE]
theorem both_span {r c i j : Int} {n : Nat} {xs : List Nat} : spanE (chkM r c n xs) r c i j 1 1 = firstL [firstL [chkM r c n xs, outE i r], firstL [chkM r c n xs, outE j c]] := by
  rw [f2, f2, f2]
  unfold spanE outE
  by_cases hE : chkM r c n xs = 0
  · obtain ⟨R, C, rfl, rfl, h1, h2, _, _⟩ := chk_some hE
    rw [if_neg (fun h => h hE), if_pos hE, if_pos hE]
    by_cases h : i < 0 ∨ (R : Int) ≤ i
    · rw [if_pos h, if_pos (by omega), if_neg (by decide)]
    · rw [if_neg h, if_pos rfl]
      by_cases h3 : j < 0 ∨ (C : Int) ≤ j
      · rw [if_pos h3, if_pos (by omega)]
      · rw [if_neg h3, if_neg (by omega)]
  · rw [if_pos hE, if_neg hE, if_neg hE]
theorem with_first (F : Int) (x : Nat) : withE F x = firstL [F, if finB x = true then 0 else 4] := by
  rw [f2]
  unfold withE
  by_cases h : F = 0
  · rw [if_neg (fun hc => hc h), if_pos h]
  · rw [if_pos h, if_neg h]
theorem zero_both {E a b : Int} (h : firstL [firstL [E, a], firstL [E, b]] = 0) : firstL [E, a] = 0 ∧ firstL [E, b] = 0 := by
  rw [f2] at h
  by_cases h1 : firstL [E, a] = 0
  · rw [if_pos h1] at h; exact ⟨h1, h⟩
  · rw [if_neg h1] at h; exact absurd h h1
theorem with_zero {F : Int} {x : Nat} (h : withE F x = 0) : F = 0 ∧ finB x = true := by
  unfold withE at h
  by_cases hF : F = 0
  · rw [if_neg (fun hc => hc hF)] at h
    cases hc : finB x with
    | true => exact ⟨hF, rfl⟩
    | false => rw [hc, if_neg (by decide)] at h; cases h
  · rw [if_pos hF] at h; exact absurd h hF
end Go.Proofs.Ytglgjkhfoajflaa

namespace Go.Proofs.Ytglgjkhfoajflaa
open Go.RowKit Go.IntWalk

/-- The numbers of a multiple. -/
def sclV (xs : List Nat) (s c : Nat) (i j : Nat) : Nat := caf .mul (canonOf (xs.getD (i * c + j) 0)) (canonOf s)
def sclT (rx cx : Int) (n : Nat) (xs : List Nat) (s : Nat) : Int := if withE (chkM rx cx n xs) s = 0 then (if finV rx.toNat cx.toNat (sclV xs s cx.toNat) = true then 0 else 5) else withE (chkM rx cx n xs) s
theorem fin_of {s : Nat} (h : finB s = true) : s % 9223372036854775808 < 9218868437227405312 := by unfold finB at h; exact of_decide_eq_true h
end Go.Proofs.Ytglgjkhfoajflaa

namespace Go.Proofs.Ytglgjkhfoajflaa
open Go.RowKit Go.IntWalk

/-- A variable that holds a list. -/
def SBox (sa : Option Addr) (n ka : Nat) : Obj := .cells #[.slice sa n ka] 32
theorem scell_of {w : World} {b : Nat} {sa : Option Addr} {n ka : Nat} (h : w.heap[b]? = some (SBox sa n ka)) : w.cell? ⟨b, 0, none⟩ = some (.slice sa n ka) := by
  unfold SBox at h
  simp [World.cell?, h]
theorem chkLs_any (sa sb : Option Addr) (n m ka kb : Nat) (xs ys : List Nat) (w : World) (ha : FlM w sa n ka xs) (hb : FlM w sb m kb ys) (hn : n ≤ 17592186043904) (hm : m ≤ 17592186043904) :
    Calls Try.prog 83 #[.slice sa n ka, .slice sb m kb] w fun e w' => e = .returned (.int .i64 (first2 (lstE n xs) (lstE m ys))) ∧ Below w.heap.size w w' := by
  have HA := hid (chkL_any sa n ka xs w ha hn)
  have HB := hid (fun W (hW : Below w.heap.size w W) => chkL_any sb m kb ys W (hb.below hW) hm)
  obtain ⟨E, hE⟩ : ∃ E, Hid (lstE n xs = E) := ⟨_, rfl⟩
  obtain ⟨F, hF⟩ : ∃ E, Hid (lstE m ys = E) := ⟨_, rfl⟩
  rw [hE.out] at HA
  rw [hF.out] at HB
  rw [hE.out, hF.out]
  clear ha hb hn hm
  by_cases h : E = 0
  · subst h
    show Calls _ _ _ _ (fun e w' => e = .returned (.int .i64 F) ∧ _)
    go_enter Try.func83, Try.ntmps83
    go_wp2_with fail
    refine HA.out.mono ?_
    rintro e w1 ⟨rfl, hb1⟩
    have HB1 := hid hb1
    clear hb1
    go_wp2_with fail
    refine (HB.out _ HB1.out).mono ?_
    rintro e w2 ⟨rfl, hb2⟩
    have HB2 := hid (HB1.out.trans (hb2.mono HB1.out.size))
    clear hb2
    go_wp2_with fail
    go_ret
    exact ⟨rfl, HB2.out⟩
  · have hne : (E != 0) = true := by simpa using h
    rw [show first2 E F = E from by unfold first2; rw [if_neg h]]
    clear h
    go_enter Try.func83, Try.ntmps83
    go_wp2_with fail
    refine HA.out.mono ?_
    rintro e w1 ⟨rfl, hb1⟩
    have HB1 := hid hb1
    clear hb1
    go_wp2_with fail
    go_ret
    exact ⟨rfl, HB1.out⟩
theorem lst_gd {w : World} {sa : Option Addr} {n ka : Nat} {xs : List Nat} (h : FlM w sa n ka xs) (he : lstE n xs = 0) : n ≤ 12 ∧ FnM w sa n ka (fun j => xs.getD j 0) ∧ ∀ k, k < n → xs.getD k 0 < 18446744073709551616 ∧ xs.getD k 0 % 9223372036854775808 < 9218868437227405312 := by
  obtain ⟨h1, h2⟩ := lst_zero he
  refine ⟨h1, h.fn, fun k hk => ?_⟩
  have hl := fn_lt h.fn k hk
  refine ⟨hl, fin_exp hl ?_⟩
  have := (finF_iff n (fun j => xs.getD j 0)).1 (fin_get h.1 h2) k hk
  exact this
/-- The numbers of an outer product. -/
def outV (xs ys : List Nat) (i j : Nat) : Nat := caf .mul (canonOf (xs.getD i 0)) (canonOf (ys.getD j 0))
def outT (n : Nat) (xs : List Nat) (m : Nat) (ys : List Nat) : Int := if first2 (lstE n xs) (lstE m ys) = 0 then (if finV n m (outV xs ys) = true then 0 else 5) else first2 (lstE n xs) (lstE m ys)
theorem ansN_any (x : Nat) (hx : x < 18446744073709551616) (w : World) : Calls Try.prog 84 #[.float .f64 x] w fun e w' => e = .returned (.tuple #[.float .f64 (if finB x = true then x else 0), .int .i64 (if finB x = true then 0 else 5)]) ∧ w' = w := by
  have HIS := hid (fun W => isfinq_any x W hx)
  clear hx
  cases hf : finB x with
  | true =>
    rw [hf] at HIS
    rw [if_pos rfl, if_pos rfl]
    clear hf
    go_enter Try.func84, Try.ntmps84
    go_wp2_with fail
    refine (HIS.out _).mono ?_
    rintro e ww ⟨rfl, hw⟩
    subst hw
    go_wp2_with fail
    go_ret2
    exact ⟨rfl, rfl⟩
  | false =>
    rw [hf] at HIS
    rw [if_neg (by decide), if_neg (by decide)]
    clear hf
    go_enter Try.func84, Try.ntmps84
    go_wp2_with fail
    refine (HIS.out _).mono ?_
    rintro e ww ⟨rfl, hw⟩
    subst hw
    go_wp2_with fail
    go_ret2
    exact ⟨rfl, rfl⟩
theorem finB_canon (x : Nat) : finB (canonOf x) = finB x := by
  unfold finB canonOf
  by_cases h : 9218868437227405312 < x % 9223372036854775808
  · rw [if_pos h, decide_eq_false (by decide), decide_eq_false (by omega)]
  · rw [if_neg h]
theorem canon_fin {x : Nat} (h : finB x = true) : canonOf x = x := by
  have := fin_of h
  unfold canonOf
  rw [if_neg (by omega)]
def eqE (n m : Nat) : Int := if n = m then 0 else 3
/-- What is wrong with two lists that are to be multiplied. -/
def dotE (n : Nat) (xs : List Nat) (m : Nat) (ys : List Nat) : Int := first2 (first2 (lstE n xs) (lstE m ys)) (eqE n m)
def dotW (xs ys : List Nat) (n : Nat) : Nat := dotM (fun k => xs.getD k 0) (fun k => ys.getD k 0) n
def dotT (n : Nat) (xs : List Nat) (m : Nat) (ys : List Nat) : Int := if dotE n xs m ys = 0 then (if finB (dotW xs ys n) = true then 0 else 5) else dotE n xs m ys
def dotD (n : Nat) (xs : List Nat) (m : Nat) (ys : List Nat) : Nat := if dotT n xs m ys = 0 then dotW xs ys n else 0
theorem Dot_tot (n m ka kb : Nat) (sa sb : Option Addr) (xs ys : List Nat) (w : World) (ha : FlM w sa n ka xs) (hb : FlM w sb m kb ys) (hn : n ≤ 17592186043904) (hm : m ≤ 17592186043904) :
    Calls Try.prog 58 #[.slice sa n ka, .slice sb m kb] w fun e w' => e = .returned (.tuple #[.float .f64 (dotD n xs m ys), .int .i64 (dotT n xs m ys)]) ∧ Below w.heap.size w w' := by
  have HCB := hid (chkLs_any sa sb n m ka kb xs ys w ha hb hn hm)
  by_cases h : first2 (lstE n xs) (lstE m ys) = 0
  · rw [h] at HCB
    by_cases hs : n = m
    · subst hs
      have hE : dotE n xs n ys = 0 := by unfold dotE; rw [h]; unfold eqE first2; rw [if_pos rfl, if_pos rfl]
      have HD := hid (fun W (hW : Below w.heap.size w W) => dot_any sa sb n ka kb _ _ W hn (ha.below hW).fn (hb.below hW).fn)
      have hT : dotT n xs n ys = if finB (dotW xs ys n) = true then 0 else 5 := by unfold dotT; rw [if_pos hE]
      have hDD : dotD n xs n ys = if finB (dotW xs ys n) = true then dotW xs ys n else 0 := by
        unfold dotD
        rw [hT]
        cases finB (dotW xs ys n) <;> rfl
      rw [hT, hDD]
      have hnn : ((n : Int) != (n : Int)) = false := by simp
      have HAN := hid (fun x (hx : x < 18446744073709551616) W => ansN_any x hx W)
      clear ha hb hn hm h hE hT hDD
      cases hf : finB (dotW xs ys n) with
      | true =>
        have HFF := hid hf
        clear hf
        rw [if_pos rfl, if_pos rfl]
        go_enter Try.func58, Try.ntmps58
        go_wp2_with fail
        refine HCB.out.mono ?_
        rintro e w1 ⟨rfl, hb1⟩
        have HB1 := hid hb1
        clear hb1
        go_wp2_with fail
        refine (HD.out _ HB1.out).mono ?_
        rintro e w2 ⟨z, rfl, ⟨hz1, hz2⟩, hb2⟩
        have HB2 := hid (HB1.out.trans (hb2.mono HB1.out.size))
        have e1 : canonOf z = dotW xs ys n := hz2
        have hfz : finB z = true := by rw [← finB_canon, e1]; exact HFF.out
        have HA1 := hid (HAN.out z hz1)
        rw [hfz, if_pos rfl, if_pos rfl] at HA1
        rw [canon_fin hfz] at e1
        have HE1 := hid e1
        clear e1
        clear hb2 hz1 hz2 hfz
        go_wp2_with fail
        refine (HA1.out _).mono ?_
        rintro e w3 ⟨rfl, hw⟩
        subst hw
        go_wp2_with fail
        go_ret2
        exact ⟨by have h := HE1.out; subst h; rfl, HB2.out⟩
      | false =>
        have HFF := hid hf
        clear hf
        rw [if_neg (by decide), if_neg (by decide)]
        go_enter Try.func58, Try.ntmps58
        go_wp2_with fail
        refine HCB.out.mono ?_
        rintro e w1 ⟨rfl, hb1⟩
        have HB1 := hid hb1
        clear hb1
        go_wp2_with fail
        refine (HD.out _ HB1.out).mono ?_
        rintro e w2 ⟨z, rfl, ⟨hz1, hz2⟩, hb2⟩
        have HB2 := hid (HB1.out.trans (hb2.mono HB1.out.size))
        have e1 : canonOf z = dotW xs ys n := hz2
        have hfz : finB z = false := by rw [← finB_canon, e1]; exact HFF.out
        have HA1 := hid (HAN.out z hz1)
        rw [hfz, if_neg (by decide), if_neg (by decide)] at HA1
        clear e1
        clear hb2 hz1 hz2 hfz
        go_wp2_with fail
        refine (HA1.out _).mono ?_
        rintro e w3 ⟨rfl, hw⟩
        subst hw
        go_wp2_with fail
        go_ret2
        exact ⟨rfl, HB2.out⟩
    · have hE : dotE n xs m ys = 3 := by unfold dotE; rw [h]; unfold eqE first2; rw [if_pos rfl, if_neg hs]
      have hT : dotT n xs m ys = 3 := by unfold dotT; rw [hE, if_neg (by decide)]
      have hDD : dotD n xs m ys = 0 := by unfold dotD; rw [hT, if_neg (by decide)]
      rw [hT, hDD]
      have hnn : ((n : Int) != (m : Int)) = true := by simp; omega
      clear ha hb hn hm h hE hT hDD hs
      go_enter Try.func58, Try.ntmps58
      go_wp2_with fail
      refine HCB.out.mono ?_
      rintro e w1 ⟨rfl, hb1⟩
      have HB1 := hid hb1
      clear hb1
      go_wp2_with fail
      go_ret2
      exact ⟨rfl, HB1.out⟩
  · have hE : dotE n xs m ys = first2 (lstE n xs) (lstE m ys) := by
      unfold dotE
      generalize first2 (lstE n xs) (lstE m ys) = F at h
      unfold first2
      rw [if_neg h]
    have hT : dotT n xs m ys = first2 (lstE n xs) (lstE m ys) := by unfold dotT; rw [hE, if_neg h]
    have hDD : dotD n xs m ys = 0 := by unfold dotD; rw [hT, if_neg h]
    rw [hT, hDD]
    obtain ⟨E, hEE⟩ : ∃ E, Hid (first2 (lstE n xs) (lstE m ys) = E) := ⟨_, rfl⟩
    rw [hEE.out] at HCB h ⊢
    have hne : (E != 0) = true := by simpa using h
    clear ha hb hn hm h hE hT hDD
    go_enter Try.func58, Try.ntmps58
    go_wp2_with fail
    refine HCB.out.mono ?_
    rintro e w1 ⟨rfl, hb1⟩
    have HB1 := hid hb1
    clear hb1
    go_wp2_with fail
    go_ret2
    exact ⟨rfl, HB1.out⟩
end Go.Proofs.Ytglgjkhfoajflaa
