
/- What dyad's put does. -/
import Derived.Test.YtpjdmhidhllbkaaDoorP28
namespace Go.Proofs.YtpjdmhidhllbkaaDoor
open Go.RowKit Go.IntWalk

/-- The words of a total: 134 for what is above 0, 134 for what is below. -/
def TotAt (W : World) (b : Nat) (o : Nat → Nat) : Prop := W.rowIs b 67 268 (fun j => .int .u32 (o j)) ∧ ∀ j, o j < 4294967296
theorem digs (lo hi : Nat) (h1 : lo < 18446744073709551616) (h2 : hi < 18446744073709551616) : digN (lo + 18446744073709551616 * hi) 0 = lo % 4294967296 ∧ digN (lo + 18446744073709551616 * hi) 1 = lo / 4294967296 ∧ digN (lo + 18446744073709551616 * hi) 2 = hi % 4294967296 ∧ digN (lo + 18446744073709551616 * hi) 3 = hi / 4294967296 := by
  unfold digN
  have e2 : (4294967296 : Nat) ^ 2 = 18446744073709551616 := by decide
  have e3 : (4294967296 : Nat) ^ 3 = 79228162514264337593543950336 := by decide
  rw [Nat.pow_zero, Nat.pow_one, e2, e3]
  refine ⟨by omega, by omega, by omega, by omega⟩
theorem dig_high (V t : Nat) (hV : V < 340282366920938463463374607431768211456) (ht : 4 ≤ t) : digN V t = 0 := by
  unfold digN
  have hp : (340282366920938463463374607431768211456 : Nat) ≤ 4294967296 ^ t := by
    have : (4294967296 : Nat) ^ 4 ≤ 4294967296 ^ t := Nat.pow_le_pow_right (by decide) ht
    have e : (4294967296 : Nat) ^ 4 = 340282366920938463463374607431768211456 := by decide
    omega
  rw [Nat.div_eq_of_lt (Nat.lt_of_lt_of_le hV hp)]
set_option maxRecDepth 8000 in
set_option maxHeartbeats 4000000 in
theorem put_tot (neg : Bool) (b lo hi q s : Nat) (E : Int) (o : Nat → Nat) (w : World) (hb : TotAt w b o) (h1 : lo < 18446744073709551616) (h2 : hi < 18446744073709551616) (hE : E + 2148 = ((32 * q + s : Nat) : Int)) (hs : s < 32) (hq : q ≤ 134) (hlt : natF (seg (if neg then 134 else 0) o) 134 + (lo + 18446744073709551616 * hi) * 2 ^ (32 * q + s) < 4294967296 ^ 134) :
    Calls Tryd.prog 42 #[.pointer (some ⟨b, 0, none⟩), .bool neg, .int .u64 hi, .int .u64 lo, .int .i64 E] w fun r w' => r = .returned (.tuple #[]) ∧ (∃ o', TotAt w' b o' ∧ natF (seg (if neg then 134 else 0) o') 134 = natF (seg (if neg then 134 else 0) o) 134 + (lo + 18446744073709551616 * hi) * 2 ^ (32 * q + s) ∧ ∀ j, (j < (if neg then 134 else 0) ∨ (if neg then 134 else 0) + 134 ≤ j) → o' j = o j) ∧ But b w w' := by
  have HB := hid hb
  have hV : lo + 18446744073709551616 * hi < 340282366920938463463374607431768211456 := by omega
  obtain ⟨g0, g1, g2, g3⟩ := digs lo hi h1 h2
  have HG := hid (And.intro g0 (And.intro g1 (And.intro g2 g3)))
  have w0 : IntKind.u32.wrap (lo : Int) = ((lo % 4294967296 : Nat) : Int) := by rw [IntKind.wrap_u32]; omega
  have w1 : IntKind.u32.wrap ((lo : Int) / 4294967296) = ((lo / 4294967296 : Nat) : Int) := by rw [IntKind.wrap_u32]; omega
  have w2 : IntKind.u32.wrap (hi : Int) = ((hi % 4294967296 : Nat) : Int) := by rw [IntKind.wrap_u32]; omega
  have w3 : IntKind.u32.wrap ((hi : Int) / 4294967296) = ((hi / 4294967296 : Nat) : Int) := by rw [IntKind.wrap_u32]; omega
  obtain ⟨d0, hd0⟩ : ∃ d, Hid (lo % 4294967296 = d) := ⟨_, rfl⟩
  obtain ⟨d1, hd1⟩ : ∃ d, Hid (lo / 4294967296 = d) := ⟨_, rfl⟩
  obtain ⟨d2, hd2⟩ : ∃ d, Hid (hi % 4294967296 = d) := ⟨_, rfl⟩
  obtain ⟨d3, hd3⟩ : ∃ d, Hid (hi / 4294967296 = d) := ⟨_, rfl⟩
  rw [hd0.out] at w0 HG
  rw [hd1.out] at w1 HG
  rw [hd2.out] at w2 HG
  rw [hd3.out] at w3 HG
  obtain ⟨V, hVV⟩ : ∃ V, Hid (lo + 18446744073709551616 * hi = V) := ⟨_, rfl⟩
  rw [hVV.out] at HG hV hlt ⊢
  obtain ⟨N, hN⟩ : ∃ N : Int, Hid (E + 2148 = N) := ⟨_, rfl⟩
  have hN1 : IntKind.i64.wrap (E - -2148) = N := by have := hN.out; rw [IntWalk.i64_in _ (by omega)]; omega
  have hN2 : E - -2148 = N := by have := hN.out; omega
  have hN3 : E + 2148 = N := hN.out
  have hN0 : 0 ≤ N := by have := hN.out; omega
  have hNb : N ≤ 10000 := by have := hN.out; omega
  have hdiv : N / 32 = (q : Int) := by have := hN.out; omega
  have hmod : N % 32 = (s : Int) := by have := hN.out; omega
  have HQ := hid (show q ≤ 134 ∧ s < 32 from ⟨hq, hs⟩)
  have HLT := hid hlt
  have HV := hid hV
  have hblt := hb.1.lt
  have HRES : Hid (∀ W o', TotAt W b o' → But b w W → natF (seg (if neg then 134 else 0) o') 134 = natF (seg (if neg then 134 else 0) o) 134 + V * 2 ^ (32 * q + s) → (∀ j, (j < (if neg then 134 else 0) ∨ (if neg then 134 else 0) + 134 ≤ j) → o' j = o j) → (∃ o', TotAt W b o' ∧ natF (seg (if neg then 134 else 0) o') 134 = natF (seg (if neg then 134 else 0) o) 134 + V * 2 ^ (32 * q + s) ∧ ∀ j, (j < (if neg then 134 else 0) ∨ (if neg then 134 else 0) + 134 ≤ j) → o' j = o j) ∧ But b w W) := fun W o' a1 a2 a3 a4 => ⟨⟨o', a1, a3, a4⟩, a2⟩
  clear hb h1 h2 hE hs hq hlt g0 g1 g2 g3 hV
  cases neg
  · simp only [Bool.false_eq_true, if_false] at HRES HLT ⊢
    go_enter Tryd.func42, Tryd.ntmps42
    go_wp2
    go_loopw [14, 15, 16] (fun cv uv iv wr => ∃ (t c U P : Nat) (p : Nat → Nat), P ≤ 134 ∧ cv = .int .u64 c ∧ uv = .int .u64 U ∧ iv = .int .i64 P ∧ Hid (q + t = P) ∧ Hid (TotAt wr b p) ∧ Hid (PutI o p 0 q s V c U t) ∧ Hid (But b w wr) ∧ (wr.cell? ⟨w.heap.size, 0, none⟩ = some (.int .u32 d0) ∧ wr.cell? ⟨w.heap.size, 1, none⟩ = some (.int .u32 d1) ∧ wr.cell? ⟨w.heap.size, 2, none⟩ = some (.int .u32 d2) ∧ wr.cell? ⟨w.heap.size, 3, none⟩ = some (.int .u32 d3))) (fun _ _ iv _ => 134 - (intOf iv).toNat)
    case atStart =>
      refine ⟨0, 0, 0, q, o, HQ.out.1, rfl, rfl, by rw [hdiv], Nat.add_zero _, ⟨HB.out.1.of_block (((Below.refl _ _).alloc (Nat.le_refl _) _).block b hblt), HB.out.2⟩, PutI.zero o 0 q s V HB.out.2, But.of_below ((Below.refl _ _).alloc (Nat.le_refl _) _), ?_⟩
      simp [go_sem]
    case round =>
      obtain ⟨t, c, U, P, p, hP, rfl, rfl, rfl, HP, HTOT, HI, HBT, x0, x1, x2, x3⟩ := hrel
      by_cases hlt : P < 134
      · obtain ⟨st, sb⟩ := HI.out.step HQ.out.2 (by rw [HP.out]; exact hlt)
        rw [HP.out] at st
        have hc1 := HI.out.2.1
        have hxl := HTOT.out.2 (P)
        have hcell := HTOT.out.1.cell (i := P) (by omega)
        have fx := HTOT.out.1.frozen
        have hltb := HTOT.out.1.lt
        have hUl := HI.out.2.2.1
        have hd : digN V t < 4294967296 := Nat.mod_lt _ (by decide)
        have hne : ¬ w.heap.size = b := by omega
        have hne2 : ¬ b = w.heap.size := by omega
        obtain ⟨x, hx⟩ : ∃ x, Hid (p (P) = x) := ⟨_, rfl⟩
        rw [show 0 + P = P by omega, hx.out] at st
        rw [hx.out] at hcell hxl
        have hPs : IntKind.i64.wrap ((P : Int) - (q : Int)) = (t : Int) := by have := HP.out; rw [IntWalk.i64_in _ (by omega)]; omega
        have hPs2 : (P : Int) - (q : Int) = (t : Int) := by have := HP.out; omega
        have hPI : (P : Int) < 134 := by omega
        have hP0 : (0 : Int) ≤ (P : Int) := by omega
        have hmin : min s 64 = s := Nat.min_eq_left (by have := HQ.out.2; omega)
        have hor : bits .or .u64 (U : Int) ((digN V t * 2 ^ s : Nat) : Int) = ((U + digN V t * 2 ^ s : Nat) : Int) := or_carry U (digN V t * 2 ^ s) s HQ.out.2 hUl (by omega) (Nat.mul_mod_left _ _)
        have hsh := shl_wb (digN V t) s (by omega)
        by_cases ht : t < 4
        · have hdc : wr.cell? ⟨w.heap.size, t, none⟩ = some (.int .u32 (digN V t)) := by
            obtain ⟨g0, g1, g2, g3⟩ := HG.out
            rcases (show t = 0 ∨ t = 1 ∨ t = 2 ∨ t = 3 by omega) with rfl | rfl | rfl | rfl
            · rw [g0]; exact x0
            · rw [g1]; exact x1
            · rw [g2]; exact x2
            · rw [g3]; exact x3
          have htI : (t : Int) < 4 := by omega
          have ht0 : (0 : Int) ≤ (t : Int) := by omega
          obtain ⟨d, hdd⟩ : ∃ d, Hid (digN V t = d) := ⟨_, rfl⟩
          rw [hdd.out] at hdc hor hsh st sb hd
          have hwd : IntKind.u64.wrap (d : Int) = (d : Int) := by rw [IntKind.wrap_u64]; omega
          obtain ⟨D, hD⟩ : ∃ D, Hid (d * 2 ^ s = D) := ⟨_, rfl⟩
          rw [hD.out] at hor hsh st sb
          obtain ⟨T, hT⟩ : ∃ T, Hid (U + D = T) := ⟨_, rfl⟩
          rw [hT.out] at hor st sb
          obtain ⟨l, hl⟩ : ∃ l, Hid (T % 4294967296 = l) := ⟨_, rfl⟩
          obtain ⟨k, hk⟩ : ∃ k, Hid (T / 4294967296 = k) := ⟨_, rfl⟩
          have hTl : IntKind.u32.wrap (T : Int) = (l : Int) := by have := hl.out; rw [IntKind.wrap_u32]; omega
          have hTk : (T : Int) / 4294967296 = (k : Int) := by have := hk.out; omega
          have hlw : IntKind.u64.wrap (l : Int) = (l : Int) := by have := hl.out; rw [IntKind.wrap_u64]; omega
          have hxw : IntKind.u64.wrap (x : Int) = (x : Int) := by rw [IntKind.wrap_u64]; omega
          rw [hl.out, hk.out] at st
          obtain ⟨S1, hS1⟩ : ∃ S1, Hid (x + l = S1) := ⟨_, rfl⟩
          rw [hS1.out] at st
          have hs1 : IntKind.u64.wrap ((x : Int) + (l : Int)) = (S1 : Int) := by have := hS1.out; have := hl.out; rw [IntKind.wrap_u64]; omega
          have hs1' : (x : Int) + (l : Int) = (S1 : Int) := by have := hS1.out; omega
          have hs1w : IntKind.u64.wrap (S1 : Int) = (S1 : Int) := by have := hS1.out; have := hl.out; rw [IntKind.wrap_u64]; omega
          obtain ⟨S2, hS2⟩ : ∃ S2, Hid (c + S1 = S2) := ⟨_, rfl⟩
          rw [hS2.out] at st
          have hs2 : IntKind.u64.wrap ((c : Int) + (S1 : Int)) = (S2 : Int) := by have := hS2.out; have := hS1.out; have := hl.out; rw [IntKind.wrap_u64]; omega
          have hs2' : (c : Int) + (S1 : Int) = (S2 : Int) := by have := hS2.out; omega
          have hs2w : IntKind.u64.wrap (S2 : Int) = (S2 : Int) := by have := hS2.out; have := hS1.out; have := hl.out; rw [IntKind.wrap_u64]; omega
          obtain ⟨R, hR⟩ : ∃ R, Hid (S2 % 4294967296 = R) := ⟨_, rfl⟩
          obtain ⟨Q, hQ⟩ : ∃ Q, Hid (S2 / 4294967296 = Q) := ⟨_, rfl⟩
          have hRw : IntKind.u32.wrap (S2 : Int) = (R : Int) := by have := hR.out; rw [IntKind.wrap_u32]; omega
          have hQw : (S2 : Int) / 4294967296 = (Q : Int) := by have := hQ.out; omega
          rw [hR.out, hQ.out] at st
          have HST := hid st
          clear st sb hd hUl hc1 hxl
          go_wp2
          refine ⟨⟨t + 1, Q, k, P + 1, _, by omega, rfl, rfl, by go_num, by have := HP.out; show q + (t + 1) = P + 1; omega, ⟨(HTOT.out.1.set (P) _).congr (fun j _ => row_if p (P) R j), HST.out.2.2.2.1⟩, HST, But.setCell HBT.out _ _, ?_⟩, by simp [intOf]; omega⟩
          simp [go_sem, x0, x1, x2, x3]
        · have hd0' := dig_high V t HV.out (by omega)
          rw [hd0', Nat.zero_mul, Nat.add_zero] at st sb
          have htI : ¬ (t : Int) < 4 := by omega
          have htI2 : (4 : Int) ≤ (t : Int) := by omega
          clear hor hsh hd
          by_cases hz : c = 0 ∧ U = 0
          · obtain ⟨rfl, rfl⟩ := hz
            obtain ⟨k1, k2, k3⟩ := HI.out.done HV.out (by omega)
            have HE := hid (HRES.out wr p HTOT.out HBT.out k1 k3)
            clear st sb hUl hc1 hxl k1 k2 k3
            go_wp2
            exact bodyPost_ret (v := .tuple #[]) (by simp [results, Tryd.results42, go_sem]) rfl ⟨rfl, HE.out.1.elim fun o' h => ⟨o', h.1, h.2.1, fun j hj => h.2.2 j (by omega)⟩, HE.out.2⟩
          · obtain ⟨l, hl⟩ : ∃ l, Hid (U % 4294967296 = l) := ⟨_, rfl⟩
            obtain ⟨k, hk⟩ : ∃ k, Hid (U / 4294967296 = k) := ⟨_, rfl⟩
            have hTl : IntKind.u32.wrap (U : Int) = (l : Int) := by have := hl.out; rw [IntKind.wrap_u32]; omega
            have hTk : (U : Int) / 4294967296 = (k : Int) := by have := hk.out; omega
            have hlw : IntKind.u64.wrap (l : Int) = (l : Int) := by have := hl.out; rw [IntKind.wrap_u64]; omega
            have hxw : IntKind.u64.wrap (x : Int) = (x : Int) := by rw [IntKind.wrap_u64]; omega
            rw [hl.out, hk.out] at st
            obtain ⟨S1, hS1⟩ : ∃ S1, Hid (x + l = S1) := ⟨_, rfl⟩
            rw [hS1.out] at st
            have hs1 : IntKind.u64.wrap ((x : Int) + (l : Int)) = (S1 : Int) := by have := hS1.out; have := hl.out; rw [IntKind.wrap_u64]; omega
            have hs1' : (x : Int) + (l : Int) = (S1 : Int) := by have := hS1.out; omega
            have hs1w : IntKind.u64.wrap (S1 : Int) = (S1 : Int) := by have := hS1.out; have := hl.out; rw [IntKind.wrap_u64]; omega
            obtain ⟨S2, hS2⟩ : ∃ S2, Hid (c + S1 = S2) := ⟨_, rfl⟩
            rw [hS2.out] at st
            have hs2 : IntKind.u64.wrap ((c : Int) + (S1 : Int)) = (S2 : Int) := by have := hS2.out; have := hS1.out; have := hl.out; rw [IntKind.wrap_u64]; omega
            have hs2' : (c : Int) + (S1 : Int) = (S2 : Int) := by have := hS2.out; omega
            have hs2w : IntKind.u64.wrap (S2 : Int) = (S2 : Int) := by have := hS2.out; have := hS1.out; have := hl.out; rw [IntKind.wrap_u64]; omega
            obtain ⟨R, hR⟩ : ∃ R, Hid (S2 % 4294967296 = R) := ⟨_, rfl⟩
            obtain ⟨Q, hQ⟩ : ∃ Q, Hid (S2 / 4294967296 = Q) := ⟨_, rfl⟩
            have hRw : IntKind.u32.wrap (S2 : Int) = (R : Int) := by have := hR.out; rw [IntKind.wrap_u32]; omega
            have hQw : (S2 : Int) / 4294967296 = (Q : Int) := by have := hQ.out; omega
            rw [hR.out, hQ.out] at st
            have HST := hid st
            have hz2 : (((c : Int) == 0) = true ∧ ((U : Int) == 0) = false) ∨ ((c : Int) == 0) = false := by
              by_cases hc0 : c = 0
              · refine Or.inl ⟨by simp [hc0], ?_⟩
                have : U ≠ 0 := fun h => hz ⟨hc0, h⟩
                simpa using this
              · refine Or.inr (by simpa using hc0)
            clear st sb hUl hc1 hxl hz
            rcases hz2 with ⟨z1, z2⟩ | z1
            all_goals
              go_wp2
              refine ⟨⟨t + 1, Q, k, P + 1, _, by omega, rfl, rfl, by go_num, by have := HP.out; show q + (t + 1) = P + 1; omega, ⟨(HTOT.out.1.set (P) _).congr (fun j _ => row_if p (P) R j), HST.out.2.2.2.1⟩, HST, But.setCell HBT.out _ _, ?_⟩, by simp [intOf]; omega⟩
              simp [go_sem, x0, x1, x2, x3]
      · obtain rfl : P = 134 := by omega
        obtain ⟨k1, k2, k3⟩ := HI.out.last HP.out HLT.out
        have HE := hid (HRES.out wr p HTOT.out HBT.out k1 k3)
        clear k1 k2 k3 hlt
        go_wp2
        exact bodyPost_end (v := .tuple #[]) (by simp [results, Tryd.results42, go_sem]) rfl ⟨rfl, HE.out.1.elim fun o' h => ⟨o', h.1, h.2.1, fun j hj => h.2.2 j (by omega)⟩, HE.out.2⟩
  · simp only [if_true] at HRES HLT ⊢
    go_enter Tryd.func42, Tryd.ntmps42
    go_wp2
    go_loopw [14, 15, 16] (fun cv uv iv wr => ∃ (t c U P : Nat) (p : Nat → Nat), P ≤ 134 ∧ cv = .int .u64 c ∧ uv = .int .u64 U ∧ iv = .int .i64 P ∧ Hid (q + t = P) ∧ Hid (TotAt wr b p) ∧ Hid (PutI o p 134 q s V c U t) ∧ Hid (But b w wr) ∧ (wr.cell? ⟨w.heap.size, 0, none⟩ = some (.int .u32 d0) ∧ wr.cell? ⟨w.heap.size, 1, none⟩ = some (.int .u32 d1) ∧ wr.cell? ⟨w.heap.size, 2, none⟩ = some (.int .u32 d2) ∧ wr.cell? ⟨w.heap.size, 3, none⟩ = some (.int .u32 d3))) (fun _ _ iv _ => 134 - (intOf iv).toNat)
    case atStart =>
      refine ⟨0, 0, 0, q, o, HQ.out.1, rfl, rfl, by rw [hdiv], Nat.add_zero _, ⟨HB.out.1.of_block (((Below.refl _ _).alloc (Nat.le_refl _) _).block b hblt), HB.out.2⟩, PutI.zero o 134 q s V HB.out.2, But.of_below ((Below.refl _ _).alloc (Nat.le_refl _) _), ?_⟩
      simp [go_sem]
    case round =>
      obtain ⟨t, c, U, P, p, hP, rfl, rfl, rfl, HP, HTOT, HI, HBT, x0, x1, x2, x3⟩ := hrel
      by_cases hlt : P < 134
      · obtain ⟨st, sb⟩ := HI.out.step HQ.out.2 (by rw [HP.out]; exact hlt)
        rw [HP.out] at st
        have hc1 := HI.out.2.1
        have hxl := HTOT.out.2 (134 + P)
        have hcell := HTOT.out.1.cell (i := 134 + P) (by omega)
        have fx := HTOT.out.1.frozen
        have hltb := HTOT.out.1.lt
        have hUl := HI.out.2.2.1
        have hd : digN V t < 4294967296 := Nat.mod_lt _ (by decide)
        have hne : ¬ w.heap.size = b := by omega
        have hne2 : ¬ b = w.heap.size := by omega
        obtain ⟨x, hx⟩ : ∃ x, Hid (p (134 + P) = x) := ⟨_, rfl⟩
        rw [show 134 + P = 134 + P by omega, hx.out] at st
        rw [hx.out] at hcell hxl
        have hPs : IntKind.i64.wrap ((P : Int) - (q : Int)) = (t : Int) := by have := HP.out; rw [IntWalk.i64_in _ (by omega)]; omega
        have hPs2 : (P : Int) - (q : Int) = (t : Int) := by have := HP.out; omega
        have hPI : (P : Int) < 134 := by omega
        have hP0 : (0 : Int) ≤ (P : Int) := by omega
        have hmin : min s 64 = s := Nat.min_eq_left (by have := HQ.out.2; omega)
        have hor : bits .or .u64 (U : Int) ((digN V t * 2 ^ s : Nat) : Int) = ((U + digN V t * 2 ^ s : Nat) : Int) := or_carry U (digN V t * 2 ^ s) s HQ.out.2 hUl (by omega) (Nat.mul_mod_left _ _)
        have hsh := shl_wb (digN V t) s (by omega)
        by_cases ht : t < 4
        · have hdc : wr.cell? ⟨w.heap.size, t, none⟩ = some (.int .u32 (digN V t)) := by
            obtain ⟨g0, g1, g2, g3⟩ := HG.out
            rcases (show t = 0 ∨ t = 1 ∨ t = 2 ∨ t = 3 by omega) with rfl | rfl | rfl | rfl
            · rw [g0]; exact x0
            · rw [g1]; exact x1
            · rw [g2]; exact x2
            · rw [g3]; exact x3
          have htI : (t : Int) < 4 := by omega
          have ht0 : (0 : Int) ≤ (t : Int) := by omega
          obtain ⟨d, hdd⟩ : ∃ d, Hid (digN V t = d) := ⟨_, rfl⟩
          rw [hdd.out] at hdc hor hsh st sb hd
          have hwd : IntKind.u64.wrap (d : Int) = (d : Int) := by rw [IntKind.wrap_u64]; omega
          obtain ⟨D, hD⟩ : ∃ D, Hid (d * 2 ^ s = D) := ⟨_, rfl⟩
          rw [hD.out] at hor hsh st sb
          obtain ⟨T, hT⟩ : ∃ T, Hid (U + D = T) := ⟨_, rfl⟩
          rw [hT.out] at hor st sb
          obtain ⟨l, hl⟩ : ∃ l, Hid (T % 4294967296 = l) := ⟨_, rfl⟩
          obtain ⟨k, hk⟩ : ∃ k, Hid (T / 4294967296 = k) := ⟨_, rfl⟩
          have hTl : IntKind.u32.wrap (T : Int) = (l : Int) := by have := hl.out; rw [IntKind.wrap_u32]; omega
          have hTk : (T : Int) / 4294967296 = (k : Int) := by have := hk.out; omega
          have hlw : IntKind.u64.wrap (l : Int) = (l : Int) := by have := hl.out; rw [IntKind.wrap_u64]; omega
          have hxw : IntKind.u64.wrap (x : Int) = (x : Int) := by rw [IntKind.wrap_u64]; omega
          rw [hl.out, hk.out] at st
          obtain ⟨S1, hS1⟩ : ∃ S1, Hid (x + l = S1) := ⟨_, rfl⟩
          rw [hS1.out] at st
          have hs1 : IntKind.u64.wrap ((x : Int) + (l : Int)) = (S1 : Int) := by have := hS1.out; have := hl.out; rw [IntKind.wrap_u64]; omega
          have hs1' : (x : Int) + (l : Int) = (S1 : Int) := by have := hS1.out; omega
          have hs1w : IntKind.u64.wrap (S1 : Int) = (S1 : Int) := by have := hS1.out; have := hl.out; rw [IntKind.wrap_u64]; omega
          obtain ⟨S2, hS2⟩ : ∃ S2, Hid (c + S1 = S2) := ⟨_, rfl⟩
          rw [hS2.out] at st
          have hs2 : IntKind.u64.wrap ((c : Int) + (S1 : Int)) = (S2 : Int) := by have := hS2.out; have := hS1.out; have := hl.out; rw [IntKind.wrap_u64]; omega
          have hs2' : (c : Int) + (S1 : Int) = (S2 : Int) := by have := hS2.out; omega
          have hs2w : IntKind.u64.wrap (S2 : Int) = (S2 : Int) := by have := hS2.out; have := hS1.out; have := hl.out; rw [IntKind.wrap_u64]; omega
          obtain ⟨R, hR⟩ : ∃ R, Hid (S2 % 4294967296 = R) := ⟨_, rfl⟩
          obtain ⟨Q, hQ⟩ : ∃ Q, Hid (S2 / 4294967296 = Q) := ⟨_, rfl⟩
          have hRw : IntKind.u32.wrap (S2 : Int) = (R : Int) := by have := hR.out; rw [IntKind.wrap_u32]; omega
          have hQw : (S2 : Int) / 4294967296 = (Q : Int) := by have := hQ.out; omega
          rw [hR.out, hQ.out] at st
          have HST := hid st
          clear st sb hd hUl hc1 hxl
          go_wp2
          refine ⟨⟨t + 1, Q, k, P + 1, _, by omega, rfl, rfl, by go_num, by have := HP.out; show q + (t + 1) = P + 1; omega, ⟨(HTOT.out.1.set (134 + P) _).congr (fun j _ => row_if p (134 + P) R j), HST.out.2.2.2.1⟩, HST, But.setCell HBT.out _ _, ?_⟩, by simp [intOf]; omega⟩
          simp [go_sem, x0, x1, x2, x3]
        · have hd0' := dig_high V t HV.out (by omega)
          rw [hd0', Nat.zero_mul, Nat.add_zero] at st sb
          have htI : ¬ (t : Int) < 4 := by omega
          have htI2 : (4 : Int) ≤ (t : Int) := by omega
          clear hor hsh hd
          by_cases hz : c = 0 ∧ U = 0
          · obtain ⟨rfl, rfl⟩ := hz
            obtain ⟨k1, k2, k3⟩ := HI.out.done HV.out (by omega)
            have HE := hid (HRES.out wr p HTOT.out HBT.out k1 k3)
            clear st sb hUl hc1 hxl k1 k2 k3
            go_wp2
            exact bodyPost_ret (v := .tuple #[]) (by simp [results, Tryd.results42, go_sem]) rfl ⟨rfl, HE.out.1.elim fun o' h => ⟨o', h.1, h.2.1, fun j hj => h.2.2 j (by omega)⟩, HE.out.2⟩
          · obtain ⟨l, hl⟩ : ∃ l, Hid (U % 4294967296 = l) := ⟨_, rfl⟩
            obtain ⟨k, hk⟩ : ∃ k, Hid (U / 4294967296 = k) := ⟨_, rfl⟩
            have hTl : IntKind.u32.wrap (U : Int) = (l : Int) := by have := hl.out; rw [IntKind.wrap_u32]; omega
            have hTk : (U : Int) / 4294967296 = (k : Int) := by have := hk.out; omega
            have hlw : IntKind.u64.wrap (l : Int) = (l : Int) := by have := hl.out; rw [IntKind.wrap_u64]; omega
            have hxw : IntKind.u64.wrap (x : Int) = (x : Int) := by rw [IntKind.wrap_u64]; omega
            rw [hl.out, hk.out] at st
            obtain ⟨S1, hS1⟩ : ∃ S1, Hid (x + l = S1) := ⟨_, rfl⟩
            rw [hS1.out] at st
            have hs1 : IntKind.u64.wrap ((x : Int) + (l : Int)) = (S1 : Int) := by have := hS1.out; have := hl.out; rw [IntKind.wrap_u64]; omega
            have hs1' : (x : Int) + (l : Int) = (S1 : Int) := by have := hS1.out; omega
            have hs1w : IntKind.u64.wrap (S1 : Int) = (S1 : Int) := by have := hS1.out; have := hl.out; rw [IntKind.wrap_u64]; omega
            obtain ⟨S2, hS2⟩ : ∃ S2, Hid (c + S1 = S2) := ⟨_, rfl⟩
            rw [hS2.out] at st
            have hs2 : IntKind.u64.wrap ((c : Int) + (S1 : Int)) = (S2 : Int) := by have := hS2.out; have := hS1.out; have := hl.out; rw [IntKind.wrap_u64]; omega
            have hs2' : (c : Int) + (S1 : Int) = (S2 : Int) := by have := hS2.out; omega
            have hs2w : IntKind.u64.wrap (S2 : Int) = (S2 : Int) := by have := hS2.out; have := hS1.out; have := hl.out; rw [IntKind.wrap_u64]; omega
            obtain ⟨R, hR⟩ : ∃ R, Hid (S2 % 4294967296 = R) := ⟨_, rfl⟩
            obtain ⟨Q, hQ⟩ : ∃ Q, Hid (S2 / 4294967296 = Q) := ⟨_, rfl⟩
            have hRw : IntKind.u32.wrap (S2 : Int) = (R : Int) := by have := hR.out; rw [IntKind.wrap_u32]; omega
            have hQw : (S2 : Int) / 4294967296 = (Q : Int) := by have := hQ.out; omega
            rw [hR.out, hQ.out] at st
            have HST := hid st
            have hz2 : (((c : Int) == 0) = true ∧ ((U : Int) == 0) = false) ∨ ((c : Int) == 0) = false := by
              by_cases hc0 : c = 0
              · refine Or.inl ⟨by simp [hc0], ?_⟩
                have : U ≠ 0 := fun h => hz ⟨hc0, h⟩
                simpa using this
              · refine Or.inr (by simpa using hc0)
            clear st sb hUl hc1 hxl hz
            rcases hz2 with ⟨z1, z2⟩ | z1
            all_goals
              go_wp2
              refine ⟨⟨t + 1, Q, k, P + 1, _, by omega, rfl, rfl, by go_num, by have := HP.out; show q + (t + 1) = P + 1; omega, ⟨(HTOT.out.1.set (134 + P) _).congr (fun j _ => row_if p (134 + P) R j), HST.out.2.2.2.1⟩, HST, But.setCell HBT.out _ _, ?_⟩, by simp [intOf]; omega⟩
              simp [go_sem, x0, x1, x2, x3]
      · obtain rfl : P = 134 := by omega
        obtain ⟨k1, k2, k3⟩ := HI.out.last HP.out HLT.out
        have HE := hid (HRES.out wr p HTOT.out HBT.out k1 k3)
        clear k1 k2 k3 hlt
        go_wp2
        exact bodyPost_end (v := .tuple #[]) (by simp [results, Tryd.results42, go_sem]) rfl ⟨rfl, HE.out.1.elim fun o' h => ⟨o', h.1, h.2.1, fun j hj => h.2.2 j (by omega)⟩, HE.out.2⟩
end Go.Proofs.YtpjdmhidhllbkaaDoor
