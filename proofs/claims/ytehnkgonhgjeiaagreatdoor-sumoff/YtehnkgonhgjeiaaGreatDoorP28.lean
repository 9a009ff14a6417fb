
/- What dyad's put does. -/
import Derived.Test.YtehnkgonhgjeiaaGreatDoorP27
namespace Go.Proofs.YtehnkgonhgjeiaaGreatDoor
open Go.RowKit Go.IntWalk

/-- The words of a total: 134 for what is above 0, 134 for what is below. -/
def TotAt (W : World) (b : Nat) (o : Nat → Nat) : Prop := W.rowIs b 112 268 (fun j => .int .u32 (o j)) ∧ ∀ j, o j < 4294967296
theorem digs (lo hi : Nat) (h1 : lo < 18446744073709551616) (h2 : hi < 18446744073709551616) : digN (lo + 18446744073709551616 * hi) 0 = lo % 4294967296 ∧ digN (lo + 18446744073709551616 * hi) 1 = lo / 4294967296 ∧ digN (lo + 18446744073709551616 * hi) 2 = hi % 4294967296 ∧ digN (lo + 18446744073709551616 * hi) 3 = hi / 4294967296 := by
  unfold digN
  have e2 : (4294967296 : Nat) ^ 2 = 18446744073709551616 := by decide
  have e3 : (4294967296 : Nat) ^ 3 = 79228162514264337593543950336 := by decide
  rw [Nat.pow_zero, Nat.pow_one, e2, e3]
  refine ⟨by omega, by omega, by omega, by omega⟩
theorem dig_high (V t : Nat) (hV : V < 340282366920938463463374607431768211456) (ht : 4 ≤ t) : digN V t = 0 := by
  unfold digN
  have hp : (340282366920938463463374607431768211456 : Nat) ≤ 4294967296 ^ t := by
    have : (4294967296 : Nat) ^ 4 ≤ 4294967296 ^ t := Nat.pow_le_pow_right (by decide) ht
    have e : (4294967296 : Nat) ^ 4 = 340282366920938463463374607431768211456 := by decide
    omega
  rw [Nat.div_eq_of_lt (Nat.lt_of_lt_of_le hV hp)]
set_option maxRecDepth 8000 in
set_option maxHeartbeats 4000000 in
theorem put_tot (neg : Bool) (b lo hi q s : Nat) (E : Int) (o : Nat → Nat) (w : World) (hb : TotAt w b o) (h1 : lo < 18446744073709551616) (h2 : hi < 18446744073709551616) (hE : E + 2148 = ((32 * q + s : Nat) : Int)) (hs : s < 32) (hq : q ≤ 134) (hlt : natF (seg (if neg then 134 else 0) o) 134 + (lo + 18446744073709551616 * hi) * 2 ^ (32 * q + s) < 4294967296 ^ 134) :
    Calls Tryz.prog 98 #[.pointer (some ⟨b, 0, none⟩), .bool neg, .int .u64 hi, .int .u64 lo, .int .i64 E] w fun r w' => r = .returned (.tuple #[]) ∧ (∃ o', TotAt w' b o' ∧ natF (seg (if neg then 134 else 0) o') 134 = natF (seg (if neg then 134 else 0) o) 134 + (lo + 18446744073709551616 * hi) * 2 ^ (32 * q + s) ∧ ∀ j, (j < (if neg then 134 else 0) ∨ (if neg then 134 else 0) + 134 ≤ j) → o' j = o j) ∧ But b w w' := by
  have HB := hid hb
  have hV : lo + 18446744073709551616 * hi < 340282366920938463463374607431768211456 := by omega
  obtain ⟨g0, g1, g2, g3⟩ := digs lo hi h1 h2
  have HG := hid (And.intro g0 (And.intro g1 (And.intro g2 g3)))
  have w0 : IntKind.u32.wrap (lo : Int) = ((lo % 4294967296 : Nat) : Int) := by rw [IntKind.wrap_u32]; omega
  have w1 : IntKind.u32.wrap ((lo : Int) / 4294967296) = ((lo / 4294967296 : Nat) : Int) := by rw [IntKind.wrap_u32]; omega
  have w2 : IntKind.u32.wrap (hi : Int) = ((hi % 4294967296 : Nat) : Int) := by rw [IntKind.wrap_u32]; omega
  have w3 : IntKind.u32.wrap ((hi : Int) / 4294967296) = ((hi / 4294967296 : Nat) : Int) := by rw [IntKind.wrap_u32]; omega
  obtain ⟨d0, hd0⟩ : ∃ d, Hid (lo % 4294967296 = d) := ⟨_, rfl⟩
  obtain ⟨d1, hd1⟩ : ∃ d, Hid (lo / 4294967296 = d) := ⟨_, rfl⟩
  obtain ⟨d2, hd2⟩ : ∃ d, Hid (hi % 4294967296 = d) := ⟨_, rfl⟩
  obtain ⟨d3, hd3⟩ : ∃ d, Hid (hi / 4294967296 = d) := ⟨_, rfl⟩
  rw [hd0.out] at w0 HG
  rw [hd1.out] at w1 HG
  rw [hd2.out] at w2 HG
  rw [hd3.out] at w3 HG
  obtain ⟨V, hVV⟩ : ∃ V, Hid (lo + 18446744073709551616 * hi = V) := ⟨_, rfl⟩
  rw [hVV.out] at HG hV hlt ⊢
  obtain ⟨N, hN⟩ : ∃ N : Int, Hid (E + 2148 = N) := ⟨_, rfl⟩
  have hN1 : IntKind.i64.wrap (E - -2148) = N := by have := hN.out; rw [IntWalk.i64_in _ (by omega)]; omega
  have hN2 : E - -2148 = N := by have := hN.out; omega
  have hN3 : E + 2148 = N := hN.out
  have hN0 : 0 ≤ N := by have := hN.out; omega
  have hNb : N ≤ 10000 := by have := hN.out; omega
  have hdiv : N / 32 = (q : Int) := by have := hN.out; omega
  have hmod : N % 32 = (s : Int) := by have := hN.out; omega
  have HQ := hid (show q ≤ 134 ∧ s < 32 from ⟨hq, hs⟩)
  have HLT := hid hlt
  have HV := hid hV
  have hblt := hb.1.lt
  have HRES : Hid (∀ W o', TotAt W b o' → But b w W → natF (seg (if neg then 134 else 0) o') 134 = natF (seg (if neg then 134 else 0) o) 134 + V * 2 ^ (32 * q + s) → (∀ j, (j < (if neg then 134 else 0) ∨ (if neg then 134 else 0) + 134 ≤ j) → o' j = o j) → (∃ o', TotAt W b o' ∧ natF (seg (if neg then 134 else 0) o') 134 = natF (seg (if neg then 134 else 0) o) 134 + V * 2 ^ (32 * q + s) ∧ ∀ j, (j < (if neg then 134 else 0) ∨ (if neg then 134 else 0) + 134 ≤ j) → o' j = o j) ∧ But b w W) := fun W o' a1 a2 a3 a4 => ⟨⟨o', a1, a3, a4⟩, a2⟩
  clear hb h1 h2 hE hs hq hlt g0 g1 g2 g3 hV
  cases neg
  · simp only [Bool.false_eq_true, if_false] at HRES HLT ⊢
    go_enter Tryz.func98, Tryz.ntmps98
    go_wp2
    go_loopw [14, 15, 16] (fun cv uv iv wr => ∃ (t c U P : Nat) (p : Nat → Nat), P ≤ 134 ∧ cv = .int .u64 c ∧ uv = .int .u64 U ∧ iv = .int .i64 P ∧ Hid (q + t = P) ∧ Hid (TotAt wr b p) ∧ Hid (PutI o p 0 q s V c U t) ∧ Hid (But b w wr) ∧ (wr.cell? ⟨w.heap.size, 0, none⟩ = some (.int .u32 d0) ∧ wr.cell? ⟨w.heap.size, 1, none⟩ = some (.int .u32 d1) ∧ wr.cell? ⟨w.heap.size, 2, none⟩ = some (.int .u32 d2) ∧ wr.cell? ⟨w.heap.size, 3, none⟩ = some (.int .u32 d3))) (fun _ _ iv _ => 134 - (intOf iv).toNat)
    case atStart =>
      refine ⟨0, 0, 0, q, o, HQ.out.1, rfl, rfl, by rw [hdiv], Nat.add_zero _, ⟨HB.out.1.of_block (((Below.refl _ _).alloc (Nat.le_refl _) _).block b hblt), HB.out.2⟩, PutI.zero o 0 q s V HB.out.2, But.of_below ((Below.refl _ _).alloc (Nat.le_refl _) _), ?_⟩
      simp [go_sem]
    case round =>
      obtain ⟨t, c, U, P, p, hP, rfl, rfl, rfl, HP, HTOT, HI, HBT, x0, x1, x2, x3⟩ := hrel
      by_cases hlt : P < 134
      · obtain ⟨st, sb⟩ := HI.out.step HQ.out.2 (by rw [HP.out]; exact hlt)
        rw [HP.out] at st
        have hc1 := HI.out.2.1
        have hxl := HTOT.out.2 (P)
        have hcell := HTOT.out.1.cell (i := P) (by omega)
        have fx := HTOT.out.1.frozen
        have hltb := HTOT.out.1.lt
        have hUl := HI.out.2.2.1
        have hd : digN V t < 4294967296 := Nat.mod_lt _ (by decide)
        have hne : ¬ w.heap.size = b := by omega
        have hne2 : ¬ b = w.heap.size := by omega
        obtain ⟨x, hx⟩ : ∃ x, Hid (p (P) = x) := ⟨_, rfl⟩
        rw [show 0 + P = P by omega, hx.out] at st
        rw [hx.out] at hcell hxl
        have hPs : IntKind.i64.wrap ((P : Int) - (q : Int)) = (t : Int) := by have := HP.out; rw [IntWalk.i64_in _ (by omega)]; omega
        have hPs2 : (P : Int) - (q : Int) = (t : Int) := by have := HP.out; omega
        have hPI : (P : Int) < 134 := by omega
        have hP0 : (0 : Int) ≤ (P : Int) := by omega
        have hmin : min s 64 = s := Nat.min_eq_left (by have := HQ.out.2; omega)
        have hor : bits .or .u64 (U : Int) ((digN V t * 2 ^ s : Nat) : Int) = ((U + digN V t * 2 ^ s : Nat) : Int) := or_carry U (digN V t * 2 ^ s) s HQ.out.2 hUl (by omega) (Nat.mul_mod_left _ _)
        have hsh := shl_wb (digN V t) s (by omega)
        by_cases ht : t < 4
        · have hdc : wr.cell? ⟨w.heap.size, t, none⟩ = some (.int .u32 (digN V t)) := by
            obtain ⟨g0, g1, g2, g3⟩ := HG.out
            rcases (show t = 0 ∨ t = 1 ∨ t = 2 ∨ t = 3 by omega) with rfl | rfl | rfl | rfl
            · rw [g0]; exact x0
            · rw [g1]; exact x1
            · rw [g2]; exact x2
            · rw [g3]; exact x3
          have htI : (t : Int) < 4 := by omega
          have ht0 : (0 : Int) ≤ (t : Int) := by omega
          obtain ⟨d, hdd⟩ : ∃ d, Hid (digN V t = d) := ⟨_, rfl⟩
          rw [hdd.out] at hdc hor hsh st sb hd
          have hwd : IntKind.u64.wrap (d : Int) = (d : Int) := by rw [IntKind.wrap_u64]; omega
          obtain ⟨D, hD⟩ : ∃ D, Hid (d * 2 ^ s = D) := ⟨_, rfl⟩
          rw [hD.out] at hor hsh st sb
          obtain ⟨T, hT⟩ : ∃ T, Hid (U + D = T) := ⟨_, rfl⟩
          rw [hT.out] at hor st sb
          obtain ⟨l, hl⟩ : ∃ l, Hid (T % 4294967296 = l) := ⟨_, rfl⟩
          obtain ⟨k, hk⟩ : ∃ k, Hid (T / 4294967296 = k) := ⟨_, rfl⟩
          have hTl : IntKind.u32.wrap (T : Int) = (l : Int) := by have := hl.out; rw [IntKind.wrap_u32]; omega
          have hTk : (T : Int) / 4294967296 = (k : Int) := by have := hk.out; omega
          have hlw : IntKind.u64.wrap (l : Int) = (l : Int) := by have := hl.out; rw [IntKind.wrap_u64]; omega
          have hxw : IntKind.u64.wrap (x : Int) = (x : Int) := by rw [IntKind.wrap_u64]; omega
          rw [hl.out, hk.out] at st
          obtain ⟨S1, hS1⟩ : ∃ S1, Hid (x + l = S1) := ⟨_, rfl⟩
          rw [hS1.out] at st
          have hs1 : IntKind.u64.wrap ((x : Int) + (l : Int)) = (S1 : Int) := by have := hS1.out; have := hl.out; rw [IntKind.wrap_u64]; omega
          have hs1' : (x : Int) + (l : Int) = (S1 : Int) := by have := hS1.out; omega
          have hs1w : IntKind.u64.wrap (S1 : Int) = (S1 : Int) := by have := hS1.out; have := hl.out; rw [IntKind.wrap_u64]; omega
          obtain ⟨S2, hS2⟩ : ∃ S2, Hid (c + S1 = S2) := ⟨_, rfl⟩
          rw [hS2.out] at st
          have hs2 : IntKind.u64.wrap ((c : Int) + (S1 : Int)) = (S2 : Int) := by have := hS2.out; have := hS1.out; have := hl.out; rw [IntKind.wrap_u64]; omega
          have hs2' : (c : Int) + (S1 : Int) = (S2 : Int) := by have := hS2.out; omega
          have hs2w : IntKind.u64.wrap (S2 : Int) = (S2 : Int) := by have := hS2.out; have := hS1.out; have := hl.out; rw [IntKind.wrap_u64]; omega
          obtain ⟨R, hR⟩ : ∃ R, Hid (S2 % 4294967296 = R) := ⟨_, rfl⟩
          obtain ⟨Q, hQ⟩ : ∃ Q, Hid (S2 / 4294967296 = Q) := ⟨_, rfl⟩
          have hRw : IntKind.u32.wrap (S2 : Int) = (R : Int) := by have := hR.out; rw [IntKind.wrap_u32]; omega
          have hQw : (S2 : Int) / 4294967296 = (Q : Int) := by have := hQ.out; omega
          rw [hR.out, hQ.out] at st
          have HST := hid st
          clear st sb hd hUl hc1 hxl
          go_wp2
          refine ⟨⟨t + 1, Q, k, P + 1, _, by omega, rfl, rfl, by go_num, by have := HP.out; show q + (t + 1) = P + 1; omega, ⟨(HTOT.out.1.set (P) _).congr (fun j _ => row_if p (P) R j), HST.out.2.2.2.1⟩, HST, But.setCell HBT.out _ _, ?_⟩, by simp [intOf]; omega⟩
          simp [go_sem, x0, x1, x2, x3]
        · have hd0' := dig_high V t HV.out (by omega)
          rw [hd0', Nat.zero_mul, Nat.add_zero] at st sb
          have htI : ¬ (t : Int) < 4 := by omega
          have htI2 : (4 : Int) ≤ (t : Int) := by omega
          clear hor hsh hd
          by_cases hz : c = 0 ∧ U = 0
          · obtain ⟨rfl, rfl⟩ := hz
            obtain ⟨k1, k2, k3⟩ := HI.out.done HV.out (by omega)
            have HE := hid (HRES.out wr p HTOT.out HBT.out k1 k3)
            clear st sb hUl hc1 hxl k1 k2 k3
            go_wp2
            exact bodyPost_ret (v := .tuple #[]) (by simp [results, Tryz.results98, go_sem]) rfl ⟨rfl, HE.out.1.elim fun o' h => ⟨o', h.1, h.2.1, fun j hj => h.2.2 j (by omega)⟩, HE.out.2⟩
          · obtain ⟨l, hl⟩ : ∃ l, Hid (U % 4294967296 = l) := ⟨_, rfl⟩
            obtain ⟨k, hk⟩ : ∃ k, Hid (U / 4294967296 = k) := ⟨_, rfl⟩
            have hTl : IntKind.u32.wrap (U : Int) = (l : Int) := by have := hl.out; rw [IntKind.wrap_u32]; omega
            have hTk : (U : Int) / 4294967296 = (k : Int) := by have := hk.out; omega
            have hlw : IntKind.u64.wrap (l : Int) = (l : Int) := by have := hl.out; rw [IntKind.wrap_u64]; omega
            have hxw : IntKind.u64.wrap (x : Int) = (x : Int) := by rw [IntKind.wrap_u64]; omega
            rw [hl.out, hk.out] at st
            obtain ⟨S1, hS1⟩ : ∃ S1, Hid (x + l = S1) := ⟨_, rfl⟩
            rw [hS1.out] at st
            have hs1 : IntKind.u64.wrap ((x : Int) + (l : Int)) = (S1 : Int) := by have := hS1.out; have := hl.out; rw [IntKind.wrap_u64]; omega
            have hs1' : (x : Int) + (l : Int) = (S1 : Int) := by have := hS1.out; omega
            have hs1w : IntKind.u64.wrap (S1 : Int) = (S1 : Int) := by have := hS1.out; have := hl.out; rw [IntKind.wrap_u64]; omega
            obtain ⟨S2, hS2⟩ : ∃ S2, Hid (c + S1 = S2) := ⟨_, rfl⟩
            rw [hS2.out] at st
            have hs2 : IntKind.u64.wrap ((c : Int) + (S1 : Int)) = (S2 : Int) := by have := hS2.out; have := hS1.out; have := hl.out; rw [IntKind.wrap_u64]; omega
            have hs2' : (c : Int) + (S1 : Int) = (S2 : Int) := by have := hS2.out; omega
            have hs2w : IntKind.u64.wrap (S2 : Int) = (S2 : Int) := by have := hS2.out; have := hS1.out; have := hl.out; rw [IntKind.wrap_u64]; omega
            obtain ⟨R, hR⟩ : ∃ R, Hid (S2 % 4294967296 = R) := ⟨_, rfl⟩
            obtain ⟨Q, hQ⟩ : ∃ Q, Hid (S2 / 4294967296 = Q) := ⟨_, rfl⟩
            have hRw : IntKind.u32.wrap (S2 : Int) = (R : Int) := by have := hR.out; rw [IntKind.wrap_u32]; omega
            have hQw : (S2 : Int) / 4294967296 = (Q : Int) := by have := hQ.out; omega
            rw [hR.out, hQ.out] at st
            have HST := hid st
            have hz2 : (((c : Int) == 0) = true ∧ ((U : Int) == 0) = false) ∨ ((c : Int) == 0) = false := by
              by_cases hc0 : c = 0
              · refine Or.inl ⟨by simp [hc0], ?_⟩
                have : U ≠ 0 := fun h => hz ⟨hc0, h⟩
                simpa using this
              · refine Or.inr (by simpa using hc0)
            clear st sb hUl hc1 hxl hz
            rcases hz2 with ⟨z1, z2⟩ | z1
            all_goals
              go_wp2
              refine ⟨⟨t + 1, Q, k, P + 1, _, by omega, rfl, rfl, by go_num, by have := HP.out; show q + (t + 1) = P + 1; omega, ⟨(HTOT.out.1.set (P) _).congr (fun j _ => row_if p (P) R j), HST.out.2.2.2.1⟩, HST, But.setCell HBT.out _ _, ?_⟩, by simp [intOf]; omega⟩
              simp [go_sem, x0, x1, x2, x3]
      · obtain rfl : P = 134 := by omega
        obtain ⟨k1, k2, k3⟩ := HI.out.last HP.out HLT.out
        have HE := hid (HRES.out wr p HTOT.out HBT.out k1 k3)
        clear k1 k2 k3 hlt
        go_wp2
        exact bodyPost_end (v := .tuple #[]) (by simp [results, Tryz.results98, go_sem]) rfl ⟨rfl, HE.out.1.elim fun o' h => ⟨o', h.1, h.2.1, fun j hj => h.2.2 j (by omega)⟩, HE.out.2⟩
  · simp only [if_true] at HRES HLT ⊢
    go_enter Tryz.func98, Tryz.ntmps98
    go_wp2
    go_loopw [14, 15, 16] (fun cv uv iv wr => ∃ (t c U P : Nat) (p : Nat → Nat), P ≤ 134 ∧ cv = .int .u64 c ∧ uv = .int .u64 U ∧ iv = .int .i64 P ∧ Hid (q + t = P) ∧ Hid (TotAt wr b p) ∧ Hid (PutI o p 134 q s V c U t) ∧ Hid (But b w wr) ∧ (wr.cell? ⟨w.heap.size, 0, none⟩ = some (.int .u32 d0) ∧ wr.cell? ⟨w.heap.size, 1, none⟩ = some (.int .u32 d1) ∧ wr.cell? ⟨w.heap.size, 2, none⟩ = some (.int .u32 d2) ∧ wr.cell? ⟨w.heap.size, 3, none⟩ = some (.int .u32 d3))) (fun _ _ iv _ => 134 - (intOf iv).toNat)
    case atStart =>
      refine ⟨0, 0, 0, q, o, HQ.out.1, rfl, rfl, by rw [hdiv], Nat.add_zero _, ⟨HB.out.1.of_block (((Below.refl _ _).alloc (Nat.le_refl _) _).block b hblt), HB.out.2⟩, PutI.zero o 134 q s V HB.out.2, But.of_below ((Below.refl _ _).alloc (Nat.le_refl _) _), ?_⟩
      simp [go_sem]
    case round =>
      obtain ⟨t, c, U, P, p, hP, rfl, rfl, rfl, HP, HTOT, HI, HBT, x0, x1, x2, x3⟩ := hrel
      by_cases hlt : P < 134
      · obtain ⟨st, sb⟩ := HI.out.step HQ.out.2 (by rw [HP.out]; exact hlt)
        rw [HP.out] at st
        have hc1 := HI.out.2.1
        have hxl := HTOT.out.2 (134 + P)
        have hcell := HTOT.out.1.cell (i := 134 + P) (by omega)
        have fx := HTOT.out.1.frozen
        have hltb := HTOT.out.1.lt
        have hUl := HI.out.2.2.1
        have hd : digN V t < 4294967296 := Nat.mod_lt _ (by decide)
        have hne : ¬ w.heap.size = b := by omega
        have hne2 : ¬ b = w.heap.size := by omega
        obtain ⟨x, hx⟩ : ∃ x, Hid (p (134 + P) = x) := ⟨_, rfl⟩
        rw [show 134 + P = 134 + P by omega, hx.out] at st
        rw [hx.out] at hcell hxl
        have hPs : IntKind.i64.wrap ((P : Int) - (q : Int)) = (t : Int) := by have := HP.out; rw [IntWalk.i64_in _ (by omega)]; omega
        have hPs2 : (P : Int) - (q : Int) = (t : Int) := by have := HP.out; omega
        have hPI : (P : Int) < 134 := by omega
        have hP0 : (0 : Int) ≤ (P : Int) := by omega
        have hmin : min s 64 = s := Nat.min_eq_left (by have := HQ.out.2; omega)
        have hor : bits .or .u64 (U : Int) ((digN V t * 2 ^ s : Nat) : Int) = ((U + digN V t * 2 ^ s : Nat) : Int) := or_carry U (digN V t * 2 ^ s) s HQ.out.2 hUl (by omega) (Nat.mul_mod_left _ _)
        have hsh := shl_wb (digN V t) s (by omega)
        by_cases ht : t < 4
        · have hdc : wr.cell? ⟨w.heap.size, t, none⟩ = some (.int .u32 (digN V t)) := by
            obtain ⟨g0, g1, g2, g3⟩ := HG.out
            rcases (show t = 0 ∨ t = 1 ∨ t = 2 ∨ t = 3 by omega) with rfl | rfl | rfl | rfl
            · rw [g0]; exact x0
            · rw [g1]; exact x1
            · rw [g2]; exact x2
            · rw [g3]; exact x3
          have htI : (t : Int) < 4 := by omega
          have ht0 : (0 : Int) ≤ (t : Int) := by omega
          obtain ⟨d, hdd⟩ : ∃ d, Hid (digN V t = d) := ⟨_, rfl⟩
          rw [hdd.out] at hdc hor hsh st sb hd
          have hwd : IntKind.u64.wrap (d : Int) = (d : Int) := by rw [IntKind.wrap_u64]; omega
          obtain ⟨D, hD⟩ : ∃ D, Hid (d * 2 ^ s = D) := ⟨_, rfl⟩
          rw [hD.out] at hor hsh st sb
          obtain ⟨T, hT⟩ : ∃ T, Hid (U + D = T) := ⟨_, rfl⟩
          rw [hT.out] at hor st sb
          obtain ⟨l, hl⟩ : ∃ l, Hid (T % 4294967296 = l) := ⟨_, rfl⟩
          obtain ⟨k, hk⟩ : ∃ k, Hid (T / 4294967296 = k) := ⟨_, rfl⟩
          have hTl : IntKind.u32.wrap (T : Int) = (l : Int) := by have := hl.out; rw [IntKind.wrap_u32]; omega
          have hTk : (T : Int) / 4294967296 = (k : Int) := by have := hk.out; omega
          have hlw : IntKind.u64.wrap (l : Int) = (l : Int) := by have := hl.out; rw [IntKind.wrap_u64]; omega
          have hxw : IntKind.u64.wrap (x : Int) = (x : Int) := by rw [IntKind.wrap_u64]; omega
          rw [hl.out, hk.out] at st
          obtain ⟨S1, hS1⟩ : ∃ S1, Hid (x + l = S1) := ⟨_, rfl⟩
          rw [hS1.out] at st
          have hs1 : IntKind.u64.wrap ((x : Int) + (l : Int)) = (S1 : Int) := by have := hS1.out; have := hl.out; rw [IntKind.wrap_u64]; omega
          have hs1' : (x : Int) + (l : Int) = (S1 : Int) := by have := hS1.out; omega
          have hs1w : IntKind.u64.wrap (S1 : Int) = (S1 : Int) := by have := hS1.out; have := hl.out; rw [IntKind.wrap_u64]; omega
          obtain ⟨S2, hS2⟩ : ∃ S2, Hid (c + S1 = S2) := ⟨_, rfl⟩
          rw [hS2.out] at st
          have hs2 : IntKind.u64.wrap ((c : Int) + (S1 : Int)) = (S2 : Int) := by have := hS2.out; have := hS1.out; have := hl.out; rw [IntKind.wrap_u64]; omega
          have hs2' : (c : Int) + (S1 : Int) = (S2 : Int) := by have := hS2.out; omega
          have hs2w : IntKind.u64.wrap (S2 : Int) = (S2 : Int) := by have := hS2.out; have := hS1.out; have := hl.out; rw [IntKind.wrap_u64]; omega
          obtain ⟨R, hR⟩ : ∃ R, Hid (S2 % 4294967296 = R) := ⟨_, rfl⟩
          obtain ⟨Q, hQ⟩ : ∃ Q, Hid (S2 / 4294967296 = Q) := ⟨_, rfl⟩
          have hRw : IntKind.u32.wrap (S2 : Int) = (R : Int) := by have := hR.out; rw [IntKind.wrap_u32]; omega
          have hQw : (S2 : Int) / 4294967296 = (Q : Int) := by have := hQ.out; omega
          rw [hR.out, hQ.out] at st
          have HST := hid st
          clear st sb hd hUl hc1 hxl
          go_wp2
          refine ⟨⟨t + 1, Q, k, P + 1, _, by omega, rfl, rfl, by go_num, by have := HP.out; show q + (t + 1) = P + 1; omega, ⟨(HTOT.out.1.set (134 + P) _).congr (fun j _ => row_if p (134 + P) R j), HST.out.2.2.2.1⟩, HST, But.setCell HBT.out _ _, ?_⟩, by simp [intOf]; omega⟩
          simp [go_sem, x0, x1, x2, x3]
        · have hd0' := dig_high V t HV.out (by omega)
          rw [hd0', Nat.zero_mul, Nat.add_zero] at st sb
          have htI : ¬ (t : Int) < 4 := by omega
          have htI2 : (4 : Int) ≤ (t : Int) := by omega
          clear hor hsh hd
          by_cases hz : c = 0 ∧ U = 0
          · obtain ⟨rfl, rfl⟩ := hz
            obtain ⟨k1, k2, k3⟩ := HI.out.done HV.out (by omega)
            have HE := hid (HRES.out wr p HTOT.out HBT.out k1 k3)
            clear st sb hUl hc1 hxl k1 k2 k3
            go_wp2
            exact bodyPost_ret (v := .tuple #[]) (by simp [results, Tryz.results98, go_sem]) rfl ⟨rfl, HE.out.1.elim fun o' h => ⟨o', h.1, h.2.1, fun j hj => h.2.2 j (by omega)⟩, HE.out.2⟩
          · obtain ⟨l, hl⟩ : ∃ l, Hid (U % 4294967296 = l) := ⟨_, rfl⟩
            obtain ⟨k, hk⟩ : ∃ k, Hid (U / 4294967296 = k) := ⟨_, rfl⟩
            have hTl : IntKind.u32.wrap (U : Int) = (l : Int) := by have := hl.out; rw [IntKind.wrap_u32]; omega
            have hTk : (U : Int) / 4294967296 = (k : Int) := by have := hk.out; omega
            have hlw : IntKind.u64.wrap (l : Int) = (l : Int) := by have := hl.out; rw [IntKind.wrap_u64]; omega
            have hxw : IntKind.u64.wrap (x : Int) = (x : Int) := by rw [IntKind.wrap_u64]; omega
            rw [hl.out, hk.out] at st
            obtain ⟨S1, hS1⟩ : ∃ S1, Hid (x + l = S1) := ⟨_, rfl⟩
            rw [hS1.out] at st
            have hs1 : IntKind.u64.wrap ((x : Int) + (l : Int)) = (S1 : Int) := by have := hS1.out; have := hl.out; rw [IntKind.wrap_u64]; omega
            have hs1' : (x : Int) + (l : Int) = (S1 : Int) := by have := hS1.out; omega
            have hs1w : IntKind.u64.wrap (S1 : Int) = (S1 : Int) := by have := hS1.out; have := hl.out; rw [IntKind.wrap_u64]; omega
            obtain ⟨S2, hS2⟩ : ∃ S2, Hid (c + S1 = S2) := ⟨_, rfl⟩
            rw [hS2.out] at st
            have hs2 : IntKind.u64.wrap ((c : Int) + (S1 : Int)) = (S2 : Int) := by have := hS2.out; have := hS1.out; have := hl.out; rw [IntKind.wrap_u64]; omega
            have hs2' : (c : Int) + (S1 : Int) = (S2 : Int) := by have := hS2.out; omega
            have hs2w : IntKind.u64.wrap (S2 : Int) = (S2 : Int) := by have := hS2.out; have := hS1.out; have := hl.out; rw [IntKind.wrap_u64]; omega
            obtain ⟨R, hR⟩ : ∃ R, Hid (S2 % 4294967296 = R) := ⟨_, rfl⟩
            obtain ⟨Q, hQ⟩ : ∃ Q, Hid (S2 / 4294967296 = Q) := ⟨_, rfl⟩
            have hRw : IntKind.u32.wrap (S2 : Int) = (R : Int) := by have := hR.out; rw [IntKind.wrap_u32]; omega
            have hQw : (S2 : Int) / 4294967296 = (Q : Int) := by have := hQ.out; omega
            rw [hR.out, hQ.out] at st
            have HST := hid st
            have hz2 : (((c : Int) == 0) = true ∧ ((U : Int) == 0) = false) ∨ ((c : Int) == 0) = false := by
              by_cases hc0 : c = 0
              · refine Or.inl ⟨by simp [hc0], ?_⟩
                have : U ≠ 0 := fun h => hz ⟨hc0, h⟩
                simpa using this
              · refine Or.inr (by simpa using hc0)
            clear st sb hUl hc1 hxl hz
            rcases hz2 with ⟨z1, z2⟩ | z1
            all_goals
              go_wp2
              refine ⟨⟨t + 1, Q, k, P + 1, _, by omega, rfl, rfl, by go_num, by have := HP.out; show q + (t + 1) = P + 1; omega, ⟨(HTOT.out.1.set (134 + P) _).congr (fun j _ => row_if p (134 + P) R j), HST.out.2.2.2.1⟩, HST, But.setCell HBT.out _ _, ?_⟩, by simp [intOf]; omega⟩
              simp [go_sem, x0, x1, x2, x3]
      · obtain rfl : P = 134 := by omega
        obtain ⟨k1, k2, k3⟩ := HI.out.last HP.out HLT.out
        have HE := hid (HRES.out wr p HTOT.out HBT.out k1 k3)
        clear k1 k2 k3 hlt
        go_wp2
        exact bodyPost_end (v := .tuple #[]) (by simp [results, Tryz.results98, go_sem]) rfl ⟨rfl, HE.out.1.elim fun o' h => ⟨o', h.1, h.2.1, fun j hj => h.2.2 j (by omega)⟩, HE.out.2⟩
end Go.Proofs.YtehnkgonhgjeiaaGreatDoor

namespace Go.Proofs.YtehnkgonhgjeiaaGreatDoor
open Go.RowKit Go.IntWalk

theorem seg_mag {W : World} {b : Nat} {o : Nat → Nat} (h : TotAt W b o) (off : Nat) (ho : off + 134 ≤ 268) : MagAt W (some ⟨b, off, none⟩) ((List.range 134).map (seg off o)) := by
  intro i hi
  rw [List.length_map, List.length_range] at hi
  refine ⟨b, off, rfl, h.1.lt, ?_⟩
  rw [h.1.cell (i := off + i) (by omega), list_get _ _ _ hi]
  rfl
theorem seg_dig {W : World} {b : Nat} {o : Nat → Nat} (h : TotAt W b o) (off : Nat) : DigL ((List.range 134).map (seg off o)) := by
  intro d hd
  obtain ⟨i, _, rfl⟩ := List.mem_map.1 hd
  exact h.2 _
theorem trim_seg {W : World} {b : Nat} {o : Nat → Nat} (h : TotAt W b o) (off : Nat) (ho : off + 134 ≤ 268) :
    Calls Tryz.prog 112 #[.slice (some ⟨b, off, none⟩) 134 134] W fun r w' => (∃ n, r = .returned (.slice (some ⟨b, off, none⟩) n 134) ∧ Hid (∃ L, L.length = n ∧ ∀ W', TotAt W' b o → MagIs (natF (seg off o) 134) 134 L (some ⟨b, off, none⟩) 134 W')) ∧ w' = W := by
  have HL : ((List.range 134).map (seg off o)).length = 134 := by rw [List.length_map, List.length_range]
  have ht := trim_any ((List.range 134).map (seg off o)) (some ⟨b, off, none⟩) 134 W (seg_mag h off ho) (by rw [HL]; exact Nat.le_refl _) (by rw [HL]; decide)
  rw [HL] at ht
  refine ht.mono ?_
  rintro r w1 ⟨⟨j, hj, rfl, hv2, he⟩, rfl⟩
  obtain ⟨hcan, hlen⟩ := can_take _ j (by rw [HL]; exact hj) he
  refine ⟨⟨j, rfl, ⟨((List.range 134).map (seg off o)).take j, hlen, fun W' h' => ⟨by rw [hlen]; exact hj, by rw [hlen]; exact hj, (seg_mag h' off ho).take j, (seg_dig h' off).take j, hcan, ?_⟩⟩⟩, rfl⟩
  rw [hv2, natF_list]
theorem TotAt.but {W W' : World} {b z : Nat} {o : Nat → Nat} (h : TotAt W b o) (hb : But z W W') (hz : b ≠ z) : TotAt W' b o := ⟨h.1.of_block (hb.block b h.1.lt hz), h.2⟩
set_option maxRecDepth 4000 in
set_option maxHeartbeats 4000000 in
theorem tdyad_any (b : Nat) (o : Nat → Nat) (w : World) (ht : TotAt w b o) (hT : Tab32 w) (hs : 2 < w.heap.size) :
    Calls Tryz.prog 99 #[.pointer (some ⟨b, 0, none⟩)] w fun r w' => DyOut ((natF (seg 0 o) 134 : Int) - (natF (seg 134 o) 134 : Int)) (-2148) w.heap.size r w' ∧ Below w.heap.size w w' := by
  have hblt := ht.1.lt
  obtain ⟨W0, hW0⟩ : ∃ W0, Hid (w.alloc (DyBox false none 0 0 0) = W0) := ⟨_, rfl⟩
  have hW0' : w.alloc (DyBox false none 0 0 0) = W0 := hW0.out
  unfold DyBox at hW0'
  have HBW : Hid (Below w.heap.size w W0) := by rw [← hW0.out]; exact (Below.refl _ _).alloc (Nat.le_refl _) _
  have HR0 : Hid (Res w.heap.size W0 W0) := by
    refine ⟨But.refl _ _, .bool false, .slice none 0 0, .int .i64 0, ?_⟩
    rw [← hW0.out]
    exact new_blk w _ _ rfl
  have HTW : Hid (∀ W, Hid (Res w.heap.size W0 W) → TotAt W b o) := fun W hW => by
    have h0 : TotAt W0 b o := ⟨ht.1.of_block (HBW.out.block b hblt), ht.2⟩
    exact h0.but hW.out.but (by omega)
  have HK : Hid (∀ W, Hid (Res w.heap.size W0 W) → True ∧ Hid (Res w.heap.size W0 W)) := fun W hW => ⟨trivial, hW⟩
  have HQ0 := res_dr HR0
  have HT1 : Hid (∀ W, Hid (Res w.heap.size W0 W) → Calls Tryz.prog 112 #[.slice (some ⟨b, 0, none⟩) 134 134] W fun r w' => (∃ n, r = .returned (.slice (some ⟨b, 0, none⟩) n 134) ∧ Hid (∃ L, L.length = n ∧ ∀ W', TotAt W' b o → MagIs (natF (seg 0 o) 134) 134 L (some ⟨b, 0, none⟩) 134 W')) ∧ w' = W) := fun W hW => trim_seg (HTW.out W hW) 0 (by decide)
  have HT2 : Hid (∀ W, Hid (Res w.heap.size W0 W) → Calls Tryz.prog 112 #[.slice (some ⟨b, 134, none⟩) 134 134] W fun r w' => (∃ n, r = .returned (.slice (some ⟨b, 134, none⟩) n 134) ∧ Hid (∃ L, L.length = n ∧ ∀ W', TotAt W' b o → MagIs (natF (seg 134 o) 134) 134 L (some ⟨b, 134, none⟩) 134 W')) ∧ w' = W) := fun W hW => trim_seg (HTW.out W hW) 134 (by decide)
  obtain ⟨A, hA⟩ : ∃ A, Hid (natF (seg 0 o) 134 = A) := ⟨_, rfl⟩
  obtain ⟨B, hB⟩ : ∃ B, Hid (natF (seg 134 o) 134 = B) := ⟨_, rfl⟩
  rw [hA.out] at HT1 ⊢
  rw [hB.out] at HT2 ⊢
  have HT := hid (And.intro hT hs)
  clear ht hT hs
  go_enter Tryz.func99, Tryz.ntmps99
  go_wp2_with fail
  go_region_held3 (fun W => True ∧ Hid (Res w.heap.size W0 W))
    ((refine HK.out _ ?_; first | assumption | exact HQ0))
    (first
      | (go_at_call 112; with_reducible refine (HT1.out _ (And.right (by assumption))).mono ?_; rintro r w1 ⟨⟨X, rfl, HX⟩, rfl⟩)
      | (go_at_call 112; with_reducible refine (HT2.out _ (And.right (by assumption))).mono ?_; rintro r w2 ⟨⟨Y, rfl, HY⟩, rfl⟩))
  all_goals
    have HNE : Hid (∀ W, Hid (Res w.heap.size W0 W) → ∃ LX LY, LX.length = X ∧ LY.length = Y ∧ MagIs A 134 LX (some ⟨b, 0, none⟩) 134 W ∧ MagIs B 134 LY (some ⟨b, 134, none⟩) 134 W) := fun W hW => by
      obtain ⟨LX, x1, hX⟩ := HX.out
      obtain ⟨LY, y1, hY⟩ := HY.out
      exact ⟨LX, LY, x1, y1, hX W (HTW.out W hW), hY W (HTW.out W hW)⟩
    have HCM : Hid (∀ W, Hid (Res w.heap.size W0 W) → Calls Tryz.prog 139 #[.slice (some ⟨b, 0, none⟩) X 134, .slice (some ⟨b, 134, none⟩) Y 134] W fun r w' => r = .returned (.int .i64 (cmpI A B)) ∧ Hid (Res w.heap.size W0 w')) := fun W hW => by
      obtain ⟨LX, LY, rfl, rfl, hX, hY⟩ := HNE.out W hW
      have hx := hX.2.1
      have hy := hY.2.1
      have := dcompare_any LX LY _ _ 134 134 W hX.2.2.1 hY.2.2.1 hX.2.2.2.1 hY.2.2.2.1 hX.2.2.2.2.1 hY.2.2.2.2.1 (by omega) (by omega)
      rw [hX.2.2.2.2.2, hY.2.2.2.2.2] at this
      refine this.mono ?_
      rintro r w' ⟨rfl, hb⟩
      exact ⟨rfl, hW.out.call hb⟩
    clear HX HY HT1 HT2
    by_cases hlt : A < B
    · rw [cmpI_lt hlt] at HCM
      have HAB := hid (Nat.le_of_lt hlt)
      have HEQ := hid (show sgnN true (B - A) = (A : Int) - (B : Int) by unfold sgnN; rw [if_pos rfl]; omega)
      clear hlt
      have HOP : Hid (∀ W, Hid (Res w.heap.size W0 W) → Calls Tryz.prog 140 #[.slice (some ⟨b, 134, none⟩) Y 134, .slice (some ⟨b, 0, none⟩) X 134] W fun r w' => ∃ n a cap, r = .returned (.slice a n cap) ∧ Hid (∃ LS, LS.length = n ∧ MagIs (B - A) 134 LS a cap w') ∧ Hid (Res w.heap.size W0 w')) := fun W hW => by
        obtain ⟨LX, LY, rfl, rfl, hX, hY⟩ := HNE.out W hW
        have hx := hX.2.1
        have hy := hY.2.1
        have hle : natL LX ≤ natL LY := by rw [hX.2.2.2.2.2, hY.2.2.2.2.2]; exact HAB.out
        have hll : LX.length ≤ LY.length := by
          apply Classical.byContradiction
          intro hc
          have := natL_shorter LY LX hY.2.2.2.1 hX.2.2.2.2.1 (by omega)
          omega
        refine (dminus_any LY LX _ _ _ _ W hY.2.2.1 hX.2.2.1 hY.2.2.2.1 hX.2.2.2.1 hll (by omega) hle).mono ?_
        rintro r w' ⟨⟨LS, a, cap, rfl, s1, s2, s3, s4, s5, s6⟩, hb⟩
        exact ⟨LS.length, a, cap, rfl, ⟨LS, rfl, s1, by omega, s3, s4, s5, by rw [s6, hX.2.2.2.2.2, hY.2.2.2.2.2]⟩, hW.out.call hb⟩
      have HWR : Hid (∀ W n a cap, Hid (Res w.heap.size W0 W) → Hid (∃ LS, LS.length = n ∧ MagIs (B - A) 134 LS a cap W) → Calls Tryz.prog 111 #[.bool true, .slice a n cap, .int .i64 (-2148)] W fun r w' => ∃ neg' a' n' cap' e' v0 v1 v2, r = .returned (.tuple #[.agg #[.bool neg', .slice a' n' cap', .int .i64 e'], .int .i64 0]) ∧ Hid (DyRet (sgnN true (B - A)) (-2148) (w.heap.size + 1) neg' a' n' cap' e' w') ∧ Hid (Res w.heap.size W0 w') ∧ (∀ o, w'.frozen? ⟨w.heap.size, o, none⟩ = false) ∧ w'.cell? ⟨w.heap.size, 0, none⟩ = some v0 ∧ w'.cell? ⟨w.heap.size, 1, none⟩ = some v1 ∧ w'.cell? ⟨w.heap.size, 2, none⟩ = some v2) := fun W n a cap hW hM => by
        obtain ⟨LS, rfl, hM'⟩ := hM.out
        exact written_res w.heap.size w W0 W true (B - A) 134 LS a cap (-2148) hW.out HBW.out (Nat.le_refl _) HT.out.1 HT.out.2 hM' (by decide) (by decide) (by decide)
      go_wp2_with fail
      refine (HCM.out _ (by first | exact HQ0 | assumption)).mono ?_
      rintro r w3 ⟨rfl, HR3⟩
      go_wp2_with fail
      refine (HOP.out _ (by assumption)).mono ?_
      rintro r w4 ⟨n', a', cap', rfl, HM4, HR4⟩
      go_wp2_with fail
      refine (HWR.out _ _ _ _ (by assumption) (by assumption)).mono ?_
      rintro r w5 ⟨neg', b', k', d', x', v0, v1, v2, rfl, HRT, HF3, fz, c0, c1', c2'⟩
      go_wp2
      have hend := res_end HBW.out (Nat.le_refl _) HRT HF3
      rw [HEQ.out] at hend
      exact bodyPost_ret (v := .tuple #[.agg #[.bool neg', .slice b' k' d', .int .i64 x'], .int .i64 0]) (by simp [results, Tryz.results99, go_sem, c0, c1', c2']) rfl hend
    · have HCI : Hid (∃ c : Int, cmpI A B = c ∧ ¬ c < 0) := by
        refine ⟨_, rfl, ?_⟩
        unfold cmpI
        rw [if_neg hlt]
        split <;> omega
      obtain ⟨c, hc, hc0⟩ := HCI.out
      rw [hc] at HCM
      have HAB := hid (Nat.le_of_not_lt hlt)
      have HEQ := hid (show sgnN false (A - B) = (A : Int) - (B : Int) by unfold sgnN; rw [if_neg (by decide)]; omega)
      clear hlt HCI hc
      have HOP : Hid (∀ W, Hid (Res w.heap.size W0 W) → Calls Tryz.prog 140 #[.slice (some ⟨b, 0, none⟩) X 134, .slice (some ⟨b, 134, none⟩) Y 134] W fun r w' => ∃ n a cap, r = .returned (.slice a n cap) ∧ Hid (∃ LS, LS.length = n ∧ MagIs (A - B) 134 LS a cap w') ∧ Hid (Res w.heap.size W0 w')) := fun W hW => by
        obtain ⟨LX, LY, rfl, rfl, hX, hY⟩ := HNE.out W hW
        have hx := hX.2.1
        have hy := hY.2.1
        have hle : natL LY ≤ natL LX := by rw [hX.2.2.2.2.2, hY.2.2.2.2.2]; exact HAB.out
        have hll : LY.length ≤ LX.length := by
          apply Classical.byContradiction
          intro hc
          have := natL_shorter LX LY hX.2.2.2.1 hY.2.2.2.2.1 (by omega)
          omega
        refine (dminus_any LX LY _ _ _ _ W hX.2.2.1 hY.2.2.1 hX.2.2.2.1 hY.2.2.2.1 hll (by omega) hle).mono ?_
        rintro r w' ⟨⟨LS, a, cap, rfl, s1, s2, s3, s4, s5, s6⟩, hb⟩
        exact ⟨LS.length, a, cap, rfl, ⟨LS, rfl, s1, by omega, s3, s4, s5, by rw [s6, hX.2.2.2.2.2, hY.2.2.2.2.2]⟩, hW.out.call hb⟩
      have HWR : Hid (∀ W n a cap, Hid (Res w.heap.size W0 W) → Hid (∃ LS, LS.length = n ∧ MagIs (A - B) 134 LS a cap W) → Calls Tryz.prog 111 #[.bool false, .slice a n cap, .int .i64 (-2148)] W fun r w' => ∃ neg' a' n' cap' e' v0 v1 v2, r = .returned (.tuple #[.agg #[.bool neg', .slice a' n' cap', .int .i64 e'], .int .i64 0]) ∧ Hid (DyRet (sgnN false (A - B)) (-2148) (w.heap.size + 1) neg' a' n' cap' e' w') ∧ Hid (Res w.heap.size W0 w') ∧ (∀ o, w'.frozen? ⟨w.heap.size, o, none⟩ = false) ∧ w'.cell? ⟨w.heap.size, 0, none⟩ = some v0 ∧ w'.cell? ⟨w.heap.size, 1, none⟩ = some v1 ∧ w'.cell? ⟨w.heap.size, 2, none⟩ = some v2) := fun W n a cap hW hM => by
        obtain ⟨LS, rfl, hM'⟩ := hM.out
        exact written_res w.heap.size w W0 W false (A - B) 134 LS a cap (-2148) hW.out HBW.out (Nat.le_refl _) HT.out.1 HT.out.2 hM' (by decide) (by decide) (by decide)
      go_wp2_with fail
      refine (HCM.out _ (by first | exact HQ0 | assumption)).mono ?_
      rintro r w3 ⟨rfl, HR3⟩
      go_wp2_with fail
      refine (HOP.out _ (by assumption)).mono ?_
      rintro r w4 ⟨n', a', cap', rfl, HM4, HR4⟩
      go_wp2_with fail
      refine (HWR.out _ _ _ _ (by assumption) (by assumption)).mono ?_
      rintro r w5 ⟨neg', b', k', d', x', v0, v1, v2, rfl, HRT, HF3, fz, c0, c1', c2'⟩
      go_wp2
      have hend := res_end HBW.out (Nat.le_refl _) HRT HF3
      rw [HEQ.out] at hend
      exact bodyPost_ret (v := .tuple #[.agg #[.bool neg', .slice b' k' d', .int .i64 x'], .int .i64 0]) (by simp [results, Tryz.results99, go_sem, c0, c1', c2']) rfl hend
end Go.Proofs.YtehnkgonhgjeiaaGreatDoor
