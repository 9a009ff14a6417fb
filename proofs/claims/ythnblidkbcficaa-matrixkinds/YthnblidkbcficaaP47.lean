
/- Numbers that aren't below 0: sums in order, the greater of two; the document's amounts, matrix' widest. (Written by mkncf.py.) -/
import Derived.Test.YthnblidkbcficaaP46
namespace Go.Proofs.Ythnblidkbcficaa
open Go.RowKit Go.IntWalk

/-- The greater of two that aren't below 0, by their bits. -/
def gmx (x y : Nat) : Nat := if x < y then y else x
theorem sv_nn {x : Nat} (h : x ≤ 9218868437227405312) : sv x = (nv x : Int) := by
  unfold sv
  rw [if_neg (by omega), show x % 9223372036854775808 = x from Nat.mod_eq_of_lt (by omega)]
theorem run_gmx {x y : Nat} (hx : x ≤ 9218868437227405312) (hy : y ≤ 9218868437227405312) (ts : Array TypeId) (t : TypeId) (w : World) : (Builtin.max_ ts t #[.float .f64 x, .float .f64 y]).run Try.prog w = .ok (.float .f64 (gmx x y)) w := by
  have ho := order_eq x y (by omega) (by omega) (by omega) (by omega)
  rw [sv_nn hx, sv_nn hy] at ho
  unfold gmx
  simp only [Builtin.max_]
  rcases Nat.lt_trichotomy x y with c | c | c
  · rw [if_pos c]
    have hl : (nv x : Int) < nv y := by have := nv_lt c; omega
    simp [Builtin.max2, ho, cmp_lt hl]
  · subst c
    rw [if_neg (by omega)]
    simp [Builtin.max2, ho]
  · rw [if_neg (by omega)]
    have hl : (nv y : Int) < nv x := by have := nv_lt c; omega
    simp [Builtin.max2, ho, cmp_gt hl]
theorem gmx_le {x y : Nat} (hx : x ≤ 9218868437227405312) (hy : y ≤ 9218868437227405312) : gmx x y ≤ 9218868437227405312 := by unfold gmx; split <;> assumption
theorem nn_add {x y : Nat} (hx : x ≤ 9218868437227405312) (hy : y ≤ 9218868437227405312) : floatBits .add .f64 x y = some (zadd x y) ∧ zadd x y ≤ 9218868437227405312 := by
  have key : ∃ z, floatBits .add .f64 x y = some z ∧ z ≤ 9218868437227405312 := by
    show ∃ z, FloatKind.f64.format.add x y = some z ∧ z ≤ 9218868437227405312
    by_cases fx : x < 9218868437227405312
    · by_cases fy : y < 9218868437227405312
      · have h := add_rndQ x y (by omega) (by omega) (by omega) (by omega)
        rw [sv_nn hx, sv_nn hy] at h
        refine ⟨_, h, ?_⟩
        have hs : (if (nv x : Int) + nv y = 0 then decide (9223372036854775808 ≤ x) && decide (9223372036854775808 ≤ y) else decide ((nv x : Int) + nv y < 0)) = false := by
          by_cases q : (nv x : Int) + nv y = 0
          · rw [if_pos q, decide_eq_false (by omega), Bool.false_and]
          · rw [if_neg q, decide_eq_false (by omega)]
        rw [hs]
        show rndM _ _ ≤ _
        exact (near_rnd false _ _).2
      · obtain rfl : y = 9218868437227405312 := by omega
        obtain ⟨m, p, ex, _⟩ := read_fin x (by omega) (by omega)
        unfold Ieee.Format.add
        rw [ex, show FloatKind.f64.format.read 9218868437227405312 = .infinity false from by decide +kernel]
        exact ⟨_, rfl, by decide +kernel⟩
    · obtain rfl : x = 9218868437227405312 := by omega
      unfold Ieee.Format.add
      rw [show FloatKind.f64.format.read 9218868437227405312 = .infinity false from by decide +kernel]
      by_cases fy : y < 9218868437227405312
      · obtain ⟨m, p, ey, _⟩ := read_fin y (by omega) (by omega)
        rw [ey]
        exact ⟨_, rfl, by decide +kernel⟩
      · obtain rfl : y = 9218868437227405312 := by omega
        rw [show FloatKind.f64.format.read 9218868437227405312 = .infinity false from by decide +kernel]
        exact ⟨_, rfl, by decide +kernel⟩
  obtain ⟨z, h1, h2⟩ := key
  have e : zadd x y = z := by unfold zadd; rw [h1]; rfl
  rw [e]
  exact ⟨h1, h2⟩
/-- The sum in order of amounts. -/
def amS (f : Nat → Nat) : Nat → Nat
  | 0 => 0
  | k + 1 => zadd (amS f k) (f k % 9223372036854775808)
theorem amS_le {f : Nat → Nat} : ∀ n, (∀ k, k < n → f k % 9223372036854775808 < 9218868437227405312) → amS f n ≤ 9218868437227405312
  | 0, _ => by show 0 ≤ _; decide
  | n + 1, h => (nn_add (amS_le n (fun k hk => h k (by omega))) (Nat.le_of_lt (h n (by omega)))).2
theorem amS_congr {f g : Nat → Nat} : ∀ n, (∀ k, k < n → f k % 9223372036854775808 = g k % 9223372036854775808) → amS f n = amS g n
  | 0, _ => rfl
  | n + 1, h => by rw [amS, amS, amS_congr n (fun k hk => h k (by omega)), h n (by omega)]
/-- The greatest of so many that aren't below 0. -/
def widM (S : Nat → Nat) : Nat → Nat
  | 0 => 0
  | k + 1 => gmx (widM S k) (S k)
theorem widM_le {S : Nat → Nat} : ∀ n, (∀ k, k < n → S k ≤ 9218868437227405312) → widM S n ≤ 9218868437227405312
  | 0, _ => by show 0 ≤ _; decide
  | n + 1, h => gmx_le (widM_le n (fun k hk => h k (by omega))) (h n (by omega))
theorem widM_congr {S S2 : Nat → Nat} : ∀ n, (∀ k, k < n → S k = S2 k) → widM S n = widM S2 n
  | 0, _ => rfl
  | n + 1, h => by rw [widM, widM, widM_congr n (fun k hk => h k (by omega)), h n (by omega)]
set_option maxRecDepth 4000 in
set_option maxHeartbeats 1000000 in
theorem amounts_any (s : Option Addr) (n l : Nat) (f : Nat → Nat) (w : World) (h : FnM w s n l f) (hf : ∀ k, k < n → f k % 9223372036854775808 < 9218868437227405312) (hn : n ≤ 17592186043904) :
    Calls Try.prog 128 #[.slice s n l] w fun e w' => e = .returned (.float .f64 (amS f n)) ∧ w' = w := by
  have HFN := hid h
  have HFF := hid hf
  have HN := hid hn
  clear h hf hn
  go_enter Try.func128, Try.ntmps128
  go_wp2_with fail
  go_loopw [3, 4] (fun sv i wr => ∃ k : Nat, k ≤ n ∧ sv = .float .f64 (amS f k) ∧ i = .int .i64 k ∧ wr = w) (fun _ i _ => n - (intOf i).toNat)
  case atStart => exact ⟨0, Nat.zero_le _, rfl, rfl, rfl⟩
  case round =>
    obtain ⟨k, hk, rfl, rfl, rfl⟩ := hrel
    have hnn := HN.out
    by_cases hlt : k < n
    · obtain ⟨b, off, hs, _, _, _, hc⟩ : ∃ b off, s = some ⟨b, off, none⟩ ∧ b < wr.heap.size ∧ n ≤ l ∧ l ≤ 9223372036854775807 ∧ ∀ j, j < n → wr.cell? ⟨b, off + j, none⟩ = some (.float .f64 (f j)) ∧ f j < 18446744073709551616 := by
        rcases HFN.out with ⟨_, h, _⟩ | h
        · omega
        · exact h
      subst hs
      have hkI : (k : Int) < (n : Int) := by omega
      have hk0 : (0 : Int) ≤ (k : Int) := by omega
      have hcell := (hc k hlt).1
      have HAB := hid (fun W => absq_fl (f k) W (hc k hlt).2)
      have hrun := f_add (nn_add (amS_le k (fun j hj => HFF.out j (by omega))) (Nat.le_of_lt (HFF.out k hlt))).1
      obtain ⟨S, hS⟩ : ∃ t, Hid (amS f k = t) := ⟨_, rfl⟩
      have HS1 : Hid (amS f (k + 1) = zadd S (f k % 9223372036854775808)) := by show _ = _; rw [amS, hS.out]
      obtain ⟨x, hx⟩ : ∃ t, Hid (f k = t) := ⟨_, rfl⟩
      rw [hS.out, hx.out] at hrun
      rw [hx.out] at HAB hcell HS1
      rw [hS.out]
      obtain ⟨y, hy⟩ : ∃ t, Hid (x % 9223372036854775808 = t) := ⟨_, rfl⟩
      rw [hy.out] at hrun HAB HS1
      obtain ⟨z, hz⟩ : ∃ t, Hid (zadd S y = t) := ⟨_, rfl⟩
      rw [hz.out] at hrun HS1
      have HK := hid hlt
      clear hc hlt
      go_wp2_with fail
      refine (HAB.out _).mono ?_
      rintro e ww ⟨rfl, hw⟩
      rw [hw]
      clear hw
      go_wp2_with fail
      have hk1 := HK.out
      refine ⟨⟨k + 1, by omega, by rw [HS1.out], by go_num, trivial⟩, ?_⟩
      simp [intOf]; omega
    · obtain rfl : k = n := by omega
      go_wp2_with fail
      go_ret
      exact ⟨rfl, rfl⟩
end Go.Proofs.Ythnblidkbcficaa

namespace Go.Proofs.Ythnblidkbcficaa
open Go.RowKit Go.IntWalk

set_option maxRecDepth 4000 in
set_option maxHeartbeats 1000000 in
theorem widest_any (r c n : Nat) (sa : Option Addr) (ka : Nat) (f : Nat → Nat) (w : World) (h : FnM w sa n ka f) (hr : r ≤ 12) (hc : c ≤ 12) (hn : n = r * c) (hf : ∀ k, k < n → f k < 9218868437227405312) :
    Calls Try.prog 127 #[.agg #[.int .i64 r, .int .i64 c, .slice sa n ka]] w fun e w' => e = .returned (.float .f64 (widM (fun i => amS (fun j => f (i * c + j)) c) r)) ∧ Below w.heap.size w w' := by
  have HRC : Hid (r ≤ 12 ∧ c ≤ 12) := ⟨hr, hc⟩
  have HROW : Hid (∀ W i, Below w.heap.size w W → i < r → Calls Try.prog 120 #[.agg #[.int .i64 r, .int .i64 c, .slice sa n ka], .int .i64 (i : Nat)] W fun e w' => (∃ s l, e = .returned (.slice s c l) ∧ FnM w' s c l (fun j => f (i * c + j))) ∧ Below W.heap.size W w') := fun W i hW hi => row_any r sa c n ka i f W (h.below hW) (by omega) (by omega) (by rw [hn]; exact Nat.mul_le_mul_right c hi)
  have HFI : Hid (∀ i j, i < r → j < c → f (i * c + j) < 9218868437227405312) := fun i j hi hj => hf _ (by rw [hn]; exact place_lt hi hj)
  have HAM : Hid (∀ i, i < r → ∀ k, k ≤ c → amS (fun j => f (i * c + j)) k ≤ 9218868437227405312) := fun i hi k hk => amS_le k (fun j hj => by have := HFI.out i j hi (by omega); omega)
  obtain ⟨S, hS⟩ : ∃ S : Nat → Nat, Hid ((fun i => amS (fun j => f (i * c + j)) c) = S) := ⟨_, rfl⟩
  have HSV : Hid (∀ i, S i = amS (fun j => f (i * c + j)) c) := fun i => by rw [← hS.out]
  have HWL : Hid (∀ i, i ≤ r → widM S i ≤ 9218868437227405312) := fun i hi => widM_le i (fun k hk => by rw [HSV.out]; exact HAM.out k (by omega) c (Nat.le_refl _))
  have HB0 : Hid (Below w.heap.size w (w.alloc (MBox r c sa n ka))) := (Below.refl _ _).alloc (Nat.le_refl _) _
  have HX0 : Hid ((w.alloc (MBox r c sa n ka)).heap[w.heap.size]? = some (MBox r c sa n ka)) := nblkM _ _
  obtain ⟨V, hV⟩ : ∃ V, Hid (w.alloc (MBox r c sa n ka) = V) := ⟨_, rfl⟩
  rw [hV.out] at HB0 HX0
  have hV' := hV.out
  unfold MBox at hV'
  obtain ⟨p0, hp0⟩ : ∃ t, Hid (w.heap.size = t) := ⟨_, rfl⟩
  rw [hp0.out] at HX0
  have hp0' := hp0.out
  obtain ⟨x0, x1, x2⟩ := mcells_of HX0.out
  rw [hS.out]
  clear h hr hc hn hf
  go_enter Try.func127, Try.ntmps127
  go_wp2_with fail
  go_loopw [3, 10] (fun gv iv wr => ∃ i : Nat, i ≤ r ∧ gv = .float .f64 (widM S i) ∧ iv = .int .i64 i ∧ Hid (Below w.heap.size w wr) ∧ Hid (wr.heap[p0]? = some (MBox r c sa n ka))) (fun _ iv _ => r - (intOf iv).toNat)
  case atStart => exact ⟨0, Nat.zero_le _, rfl, rfl, HB0, HX0⟩
  case round =>
    obtain ⟨i, hi, rfl, rfl, HBW, HXW⟩ := hrel
    obtain ⟨x0, x1, x2⟩ := mcells_of HXW.out
    obtain ⟨l1, l2⟩ := HRC.out
    by_cases hlt : i < r
    · have hiI : (i : Int) < (r : Int) := by omega
      have HI := hid hlt
      obtain ⟨G, hG⟩ : ∃ t, Hid (widM S i = t) := ⟨_, rfl⟩
      have HGL := hid (HWL.out i (by omega))
      have HG1 : Hid (widM S (i + 1) = gmx G (S i)) := by show _ = _; rw [widM, hG.out]
      rw [hG.out] at HGL
      rw [hG.out]
      clear hlt
      go_wp2_with fail
      refine (HROW.out _ i HBW.out HI.out).mono ?_
      rintro e w1 ⟨⟨s1, k1, rfl, hf1⟩, hb1⟩
      have HB1 := hid (HBW.out.trans (hb1.mono HBW.out.size))
      have HX1 := hid (blkM HXW.out hb1)
      have HF1 := hid hf1
      clear hb1 hf1
      go_wp2_with fail
      go_loopw [5, 17] (fun sv jv wr2 => ∃ j : Nat, j ≤ c ∧ sv = .float .f64 (amS (fun t => f (i * c + t)) j) ∧ jv = .int .i64 j ∧ wr2 = w1) (fun _ jv _ => c - (intOf jv).toNat)
      case atStart => exact ⟨0, Nat.zero_le _, rfl, rfl, rfl⟩
      case round =>
        obtain ⟨j, hj, rfl, rfl, rfl⟩ := hrel
        by_cases hl2 : j < c
        · obtain ⟨b, off, hs, _, _, _, hc⟩ : ∃ b off, s1 = some ⟨b, off, none⟩ ∧ b < wr.heap.size ∧ c ≤ k1 ∧ k1 ≤ 9223372036854775807 ∧ ∀ t, t < c → wr.cell? ⟨b, off + t, none⟩ = some (.float .f64 (f (i * c + t))) ∧ f (i * c + t) < 18446744073709551616 := by
            rcases HF1.out with ⟨_, h, _⟩ | h
            · omega
            · exact h
          subst hs
          have hjI : (j : Int) < (c : Int) := by omega
          have hj0 : (0 : Int) ≤ (j : Int) := by omega
          have hcell := (hc j hl2).1
          have hfx := HFI.out i j HI.out hl2
          have hmod : f (i * c + j) % 9223372036854775808 = f (i * c + j) := Nat.mod_eq_of_lt (by omega)
          have hrun := f_add (nn_add (HAM.out i HI.out j (by omega)) (Nat.le_of_lt hfx)).1
          obtain ⟨A, hA⟩ : ∃ t, Hid (amS (fun t => f (i * c + t)) j = t) := ⟨_, rfl⟩
          have HA1 : Hid (amS (fun t => f (i * c + t)) (j + 1) = zadd A (f (i * c + j))) := by show _ = _; rw [amS, hA.out, hmod]
          obtain ⟨x, hx⟩ : ∃ t, Hid (f (i * c + j) = t) := ⟨_, rfl⟩
          rw [hA.out, hx.out] at hrun
          rw [hx.out] at hcell HA1
          rw [hA.out]
          obtain ⟨z, hz⟩ : ∃ t, Hid (zadd A x = t) := ⟨_, rfl⟩
          rw [hz.out] at hrun HA1
          have HJ := hid hl2
          clear hc hl2 hfx hmod
          go_wp2_with fail
          have hj1 := HJ.out
          refine ⟨⟨j + 1, by omega, by rw [HA1.out], by go_num, trivial⟩, ?_⟩
          simp [intOf]; omega
        · obtain rfl : j = c := by omega
          have hmx := fun ts t W => run_gmx HGL.out (HAM.out i HI.out j (Nat.le_refl _)) ts t W
          rw [← HSV.out i] at hmx
          rw [← HSV.out i]
          obtain ⟨Q, hQ⟩ : ∃ t, Hid (S i = t) := ⟨_, rfl⟩
          obtain ⟨R, hR⟩ : ∃ t, Hid (gmx G (S i) = t) := ⟨_, rfl⟩
          rw [hR.out] at HG1 hmx
          rw [hQ.out] at hmx
          rw [hQ.out]
          go_wp2_with fail
          have hi1 := HI.out
          refine ⟨⟨i + 1, by omega, by rw [HG1.out], by go_num, HB1, HX1⟩, ?_⟩
          simp [intOf]; omega
    · obtain rfl : i = r := by omega
      go_wp2_with fail
      go_ret
      exact ⟨rfl, by first | exact HBW.out | (rw [← hp0.out]; exact HBW.out)⟩
end Go.Proofs.Ythnblidkbcficaa

namespace Go.Proofs.Ythnblidkbcficaa
open Go.RowKit Go.IntWalk

set_option maxRecDepth 4000 in
theorem clo_Norms (i j p0 ra ca : Nat) (sa : Option Addr) (na ka : Nat) (f : Nat → Nat) (w : World) (h0 : w.heap[p0]? = some (MBox ra ca sa na ka)) (ha : FnM w sa na ka f) (hc : ca ≤ 100) (hi : i ≤ 100) (hj : j ≤ 100) (hk : i * ca + j < na) :
    Calls Try.prog 125 #[.int .i64 i, .int .i64 j, .pointer (some ⟨p0, 0, none⟩)] w fun e w' => ∃ x : Nat, e = .returned (.float .f64 x) ∧ (x = f (i * ca + j) % 9223372036854775808 ∧ x < 18446744073709551616) ∧ Below w.heap.size w w' := by
  obtain ⟨a0, a1, a2⟩ := mcells_of h0
  have HAT := hid (at_fn ra sa ca na ka i j f w ha hi hc hj hk)
  have HAB := hid (fun W => absq_fl (f (i * ca + j)) W (fn_lt ha _ hk))
  unfold MV at HAT
  obtain ⟨x, hx⟩ : ∃ t, Hid (f (i * ca + j) = t) := ⟨_, rfl⟩
  rw [hx.out] at HAT HAB
  rw [hx.out]
  obtain ⟨y, hy⟩ : ∃ t, Hid (x % 9223372036854775808 = t) := ⟨_, rfl⟩
  rw [hy.out] at HAB
  rw [hy.out]
  have HY : Hid (y < 18446744073709551616) := by rw [← hy.out]; show _ < _; omega
  clear h0 ha hc hi hj hk
  go_enter Try.func125, Try.ntmps125
  go_wp2_with fail
  refine HAT.out.mono ?_
  rintro e w1 ⟨rfl, hb1⟩
  have HB1 := hid hb1
  clear hb1
  go_wp2_with fail
  refine (HAB.out _).mono ?_
  rintro e ww ⟨rfl, hw⟩
  rw [hw]
  clear hw
  go_wp2_with fail
  go_ret
  exact ⟨_, rfl, ⟨rfl, HY.out⟩, HB1.out⟩
/-- The norms of a good matrix: columns, rows, the greatest amount. -/
def nrm1 (f : Nat → Nat) (r c : Nat) : Nat := widM (fun i => amS (fun j => f (j * c + i)) r) c
def nrm2 (f : Nat → Nat) (r c : Nat) : Nat := widM (fun i => amS (fun j => f (i * c + j)) c) r
def nrm3 (f : Nat → Nat) (n : Nat) : Nat := widM (fun k => f k % 9223372036854775808) n
def nrmB (f : Nat → Nat) (r c : Nat) : Bool := finB (nrm1 f r c) && finB (nrm2 f r c)
/-- What Norms hands back. -/
def nrmA (f : Nat → Nat) (r c : Nat) : Value := .tuple #[.float .f64 (if nrmB f r c = true then nrm1 f r c else 0), .float .f64 (if nrmB f r c = true then nrm2 f r c else 0), .float .f64 (if nrmB f r c = true then nrm3 f (r * c) else 0), .int .i64 (if nrmB f r c = true then 0 else 5)]
theorem am_fin {f : Nat → Nat} {r c : Nat} (hf : ∀ k, k < r * c → f k % 9223372036854775808 < 9218868437227405312) : nrm1 f r c ≤ 9218868437227405312 ∧ nrm2 f r c ≤ 9218868437227405312 :=
  ⟨widM_le c (fun _ hi => amS_le r (fun _ hj => hf _ (place_lt hj hi))), widM_le r (fun _ hi => amS_le c (fun _ hj => hf _ (place_lt hi hj)))⟩
set_option maxRecDepth 4000 in
set_option maxHeartbeats 2000000 in
theorem Norms_ok (r c n : Nat) (sa : Option Addr) (ka : Nat) (f : Nat → Nat) (w : World) (ha : Gd w r c sa n ka f) :
    Calls Try.prog 77 #[.agg #[.int .i64 r, .int .i64 c, .slice sa n ka]] w fun e w' => e = .returned (nrmA f r c) ∧ Below w.heap.size w w' := by
  have HCB := hid (fun W (hW : Below w.heap.size w W) => Check_any r c sa n ka _ W ((ha.below hW).2.2.2.1.fl) (by have := ha.le; omega))
  rw [ha.chk] at HCB
  unfold MV at HCB
  have l1 := ha.1
  have l2 := ha.2.1
  have HRC : Hid (r ≤ 12 ∧ c ≤ 12) := ⟨l1, l2⟩
  have hm1 : r * c ≤ 144 := Nat.mul_le_mul l1 l2
  have HM1 : Hid (r * c ≤ 144 ∧ c * r ≤ 144) := ⟨hm1, by rw [Nat.mul_comm]; exact hm1⟩
  have HXA := hid (fun k (hk : k < r * c) => gd_fin ha k hk)
  have HNL := hid (am_fin (fun k hk => (gd_fin ha k hk).2))
  have HX0 : Hid ((w.alloc (MBox r c sa n ka)).heap[w.heap.size]? = some (MBox r c sa n ka)) := nblkM _ _
  have HB0 : Hid (Below w.heap.size w (w.alloc (MBox r c sa n ka))) := (Below.refl _ _).alloc (Nat.le_refl _) _
  have HFI := hid (fun W (hW : Below (w.alloc (MBox r c sa n ka)).heap.size (w.alloc (MBox r c sa n ka)) W) => fill_Norms r c (by omega) (by omega) ⟨w.heap.size, 0, none⟩ (fun i j x => x = f (i * c + j) % 9223372036854775808) W (fun W2 i j hW2 hi hj => clo_Norms i j w.heap.size r c sa n ka f W2 (blkM (blkM HX0.out hW) hW2) (((ha.2.2.2.1.below HB0.out).below hW).below hW2) (by omega) (by omega) (by omega) (by rw [ha.2.2.1]; exact place_lt hi hj)))
  obtain ⟨V, hV⟩ : ∃ V, Hid (w.alloc (MBox r c sa n ka) = V) := ⟨_, rfl⟩
  rw [hV.out] at HX0 HB0 HFI
  have hV' := hV.out
  unfold MBox at hV'
  obtain ⟨p0, hp0⟩ : ∃ t, Hid (w.heap.size = t) := ⟨_, rfl⟩
  rw [hp0.out] at HX0 HFI
  have hp0' := hp0.out
  obtain ⟨x0, x1, x2⟩ := mcells_of HX0.out
  obtain ⟨Z, hZ⟩ : ∃ t, Hid (nrmA f r c = t) := ⟨_, rfl⟩
  rw [hZ.out]
  clear ha l1 l2 hm1
  go_enter Try.func77, Try.ntmps77
  go_wp2_with fail
  refine (HCB.out _ HB0.out).mono ?_
  rintro e w1 ⟨rfl, hb1⟩
  have HB1 := hid (HB0.out.trans (hb1.mono HB0.out.size))
  have HX1 := hid (blkM HX0.out hb1)
  have HFF := hid (HFI.out _ hb1)
  obtain ⟨x0, x1, x2⟩ := mcells_of HX1.out
  clear hb1
  go_wp2_with fail
  refine HFF.out.mono ?_
  rintro e w2 ⟨hfi, hb2⟩
  obtain ⟨g, o1, rfl, _, hf1, hp1⟩ := hfi.fn (by have := HM1.out.1; omega)
  have HB2 := hid (HB1.out.trans (hb2.mono HB1.out.size))
  have hal : Below w2.heap.size w2 (w2.alloc (MBox r c (some ⟨g, 0, none⟩) (r * c) (r * c))) := (Below.refl _ _).alloc (Nat.le_refl _) _
  have HO1 : Hid (∀ k, k < r * c → o1 k = f k % 9223372036854775808) := fun k hk => by
    obtain ⟨q1, q2, q3⟩ := split_k hk
    have := hp1 _ _ q1 q2
    rw [q3] at this
    exact this
  have HLO : Hid (∀ k, k < r * c → o1 k < 9218868437227405312) := fun k hk => by rw [HO1.out k hk]; exact (HXA.out k hk).2
  have HV1 : Hid (Below w.heap.size w (w2.alloc (MBox r c (some ⟨g, 0, none⟩) (r * c) (r * c))) ∧ (w2.alloc (MBox r c (some ⟨g, 0, none⟩) (r * c) (r * c))).heap[w2.heap.size]? = some (MBox r c (some ⟨g, 0, none⟩) (r * c) (r * c)) ∧ FnM (w2.alloc (MBox r c (some ⟨g, 0, none⟩) (r * c) (r * c))) (some ⟨g, 0, none⟩) (r * c) (r * c) o1) := ⟨HB2.out.trans (hal.mono HB2.out.size), nblkM _ _, hf1.below hal⟩
  have HTU : Hid (∀ W, FnM W (some ⟨g, 0, none⟩) (r * c) (r * c) o1 → Calls Try.prog 99 #[.agg #[.int .i64 r, .int .i64 c, .slice (some ⟨g, 0, none⟩) (r * c) (r * c)]] W fun e w' => FillR (fun i j x => x = o1 (j * c + i)) c r (c * r) W.heap.size e w' ∧ Below W.heap.size W w') := fun W hW => turned_any r c (r * c) _ _ o1 W hW (Nat.le_refl _) (by have := HRC.out.1; omega) (by have := HRC.out.2; omega)
  have HWI : Hid (∀ W, FnM W (some ⟨g, 0, none⟩) (r * c) (r * c) o1 → Calls Try.prog 127 #[.agg #[.int .i64 r, .int .i64 c, .slice (some ⟨g, 0, none⟩) (r * c) (r * c)]] W fun e w' => e = .returned (.float .f64 (nrm2 f r c)) ∧ Below W.heap.size W w') := fun W hW => by
    have := widest_any r c (r * c) _ _ o1 W hW HRC.out.1 HRC.out.2 rfl HLO.out
    rw [show widM (fun i => amS (fun j => o1 (i * c + j)) c) r = nrm2 f r c from widM_congr r (fun i hi => amS_congr c (fun j hj => by rw [HO1.out _ (place_lt hi hj), Nat.mod_mod]))] at this
    exact this
  obtain ⟨V1, hV1⟩ : ∃ V, Hid (w2.alloc (MBox r c (some ⟨g, 0, none⟩) (r * c) (r * c)) = V) := ⟨_, rfl⟩
  obtain ⟨mb, hmb⟩ : ∃ t, Hid (w2.heap.size = t) := ⟨_, rfl⟩
  rw [hV1.out, hmb.out] at HV1
  have hW1 := hV1.out
  have hmb' := hmb.out
  unfold MBox at hW1
  unfold MV
  obtain ⟨N1, hN1⟩ : ∃ t, Hid (nrm1 f r c = t) := ⟨_, rfl⟩
  obtain ⟨N2, hN2⟩ : ∃ t, Hid (nrm2 f r c = t) := ⟨_, rfl⟩
  rw [hN1.out, hN2.out] at HNL
  rw [hN2.out] at HWI
  obtain ⟨N, hN⟩ : ∃ t, Hid (r * c = t) := ⟨_, rfl⟩
  rw [hN.out] at HV1 HTU HWI hW1 HLO HO1
  rw [hN.out]
  have HQ0 : Hid (Below w.heap.size w V1.drew ∧ V1.drew.heap[mb]? = some (MBox r c (some ⟨g, 0, none⟩) N N) ∧ FnM V1.drew (some ⟨g, 0, none⟩) N N o1) := ⟨HV1.out.1.drew, HV1.out.2.1, HV1.out.2.2⟩
  have HKS : Hid (∀ W, Hid (Below w.heap.size w W ∧ W.heap[mb]? = some (MBox r c (some ⟨g, 0, none⟩) N N) ∧ FnM W (some ⟨g, 0, none⟩) N N o1) → (W.cell? ⟨mb, 0, none⟩ = some (.int .i64 r) ∧ W.cell? ⟨mb, 1, none⟩ = some (.int .i64 c) ∧ W.cell? ⟨mb, 2, none⟩ = some (.slice (some ⟨g, 0, none⟩) N N)) ∧ Hid (Below w.heap.size w W ∧ W.heap[mb]? = some (MBox r c (some ⟨g, 0, none⟩) N N) ∧ FnM W (some ⟨g, 0, none⟩) N N o1)) := fun W hW => ⟨mcells_of hW.out.2.1, hW⟩
  have HIS1 := hid (fun W => isfinq_any N1 W (by have := HNL.out.1; omega))
  have HIS2 := hid (fun W => isfinq_any N2 W (by have := HNL.out.2; omega))
  clear hb2 hfi hf1 hp1 hal
  go_wp2_with fail
  refine wp_region_held_drew (S := fun W => (W.cell? ⟨mb, 0, none⟩ = some (.int .i64 r) ∧ W.cell? ⟨mb, 1, none⟩ = some (.int .i64 c) ∧ W.cell? ⟨mb, 2, none⟩ = some (.slice (some ⟨g, 0, none⟩) N N)) ∧ Hid (Below w.heap.size w W ∧ W.heap[mb]? = some (MBox r c (some ⟨g, 0, none⟩) N N) ∧ FnM W (some ⟨g, 0, none⟩) N N o1)) (by kernel_rfl) (HKS.out _ HQ0) (fun hHeld => ?_)
  refine take_at 0 21 (.agg #[.int .i64 r, .int .i64 c, .slice (some ⟨g, 0, none⟩) N N]) rfl rfl (by kernel_rfl) (by kernel_rfl) (by kernel_rfl) (fun _ _ _ h => h) (Or.inl ⟨by rfl, fun w hSw => by (try dsimp only at hSw); go_simp⟩) (by assumption) ?_
  simp only [Act.put, List.setIfInBounds_toArray, List.set_cons_zero, List.set_cons_succ]
  refine take_at 3 24 (.agg #[.int .i64 r, .int .i64 c, .slice (some ⟨g, 0, none⟩) N N]) rfl rfl (by kernel_rfl) (by kernel_rfl) (by kernel_rfl) (fun _ _ _ h => h) (Or.inl ⟨by rfl, fun w hSw => by (try dsimp only at hSw); go_simp⟩) (by assumption) ?_
  simp only [Act.put, List.setIfInBounds_toArray, List.set_cons_zero, List.set_cons_succ]
  refine wpAnyH_ready (rs := [1]) (by kernel_rfl) (by simp) ?_
  refine AllReadyH.cons (o := _) rfl (fun K hK => ?_) AllReadyH.nil
  go_simp
  refine (HTU.out _ HQ0.out.2.2).mono ?_
  rintro e u1 ⟨hfi, hb1⟩
  obtain ⟨g2, o2, rfl, _, hf2, hp2⟩ := hfi.fn (by have := HM1.out; omega)
  have HQ1 : Hid (Below w.heap.size w u1 ∧ u1.heap[mb]? = some (MBox r c (some ⟨g, 0, none⟩) N N) ∧ FnM u1 (some ⟨g, 0, none⟩) N N o1) := ⟨HQ0.out.1.trans (hb1.mono HQ0.out.1.size), blkM HQ0.out.2.1 hb1, HQ0.out.2.2.below hb1⟩
  have HF2 := hid hf2
  have HP2 := hid hp2
  unfold MV
  clear hfi hb1 hf2 hp2
  go_wp2_with fail
  refine hK.out _ _ (HKS.out _ HQ1) (fun hHeld1 => ?_)
  clear hK K
  try simp only [Act.put, List.setIfInBounds_toArray, List.set_cons_zero, List.set_cons_succ]
  have HWD := hid (widest_any c r (c * r) _ _ o2 u1 HF2.out HRC.out.2 HRC.out.1 rfl (fun k hk => by obtain ⟨q1, q2, q3⟩ := split_k hk; rw [← q3, HP2.out _ _ q1 q2]; exact HLO.out _ (by rw [← hN.out]; exact place_lt q2 q1)))
  rw [show widM (fun i => amS (fun j => o2 (i * r + j)) r) c = N1 from by rw [← hN1.out]; exact widM_congr c (fun i hi => amS_congr r (fun j hj => by rw [HP2.out i j hi hj, HO1.out _ (by rw [← hN.out]; exact place_lt hj hi), Nat.mod_mod]))] at HWD
  refine wpAnyH_ready (rs := [2]) (by kernel_rfl) (by simp) ?_
  refine AllReadyH.cons (o := _) rfl (fun K hK => ?_) AllReadyH.nil
  go_simp
  refine HWD.out.mono ?_
  rintro e u2 ⟨rfl, hb2⟩
  have HQ2 : Hid (Below w.heap.size w u2 ∧ u2.heap[mb]? = some (MBox r c (some ⟨g, 0, none⟩) N N) ∧ FnM u2 (some ⟨g, 0, none⟩) N N o1) := ⟨HQ1.out.1.trans (hb2.mono HQ1.out.1.size), blkM HQ1.out.2.1 hb2, HQ1.out.2.2.below hb2⟩
  clear hb2
  go_wp2_with fail
  refine hK.out _ _ (HKS.out _ HQ2) (fun hHeld2 => ?_)
  clear hK K
  try simp only [Act.put, List.setIfInBounds_toArray, List.set_cons_zero, List.set_cons_succ]
  have HWE := hid (HWI.out _ HQ2.out.2.2)
  refine wpAnyH_ready (rs := [4]) (by kernel_rfl) (by simp) ?_
  refine AllReadyH.cons (o := _) rfl (fun K hK => ?_) AllReadyH.nil
  go_simp
  refine HWE.out.mono ?_
  rintro e u3 ⟨rfl, hb3⟩
  have HQ3 : Hid (Below w.heap.size w u3 ∧ u3.heap[mb]? = some (MBox r c (some ⟨g, 0, none⟩) N N) ∧ FnM u3 (some ⟨g, 0, none⟩) N N o1) := ⟨HQ2.out.1.trans (hb3.mono HQ2.out.1.size), blkM HQ2.out.2.1 hb3, HQ2.out.2.2.below hb3⟩
  clear hb3
  go_wp2_with fail
  refine hK.out _ _ (HKS.out _ HQ3) (fun hHeld3 => ?_)
  clear hK K
  try simp only [Act.put, List.setIfInBounds_toArray, List.set_cons_zero, List.set_cons_succ]
  refine take_at 5 2 (.float .f64 N1) rfl rfl (by kernel_rfl) (by kernel_rfl) (by kernel_rfl) (fun _ _ _ h => h) (Or.inl ⟨by rfl, fun w hSw => by (try dsimp only at hSw); go_simp⟩) (by assumption) ?_
  simp only [Act.put, List.setIfInBounds_toArray, List.set_cons_zero, List.set_cons_succ]
  refine take_at 6 3 (.float .f64 N2) rfl rfl (by kernel_rfl) (by kernel_rfl) (by kernel_rfl) (fun _ _ _ h => h) (Or.inl ⟨by rfl, fun w hSw => by (try dsimp only at hSw); go_simp⟩) (by assumption) ?_
  simp only [Act.put, List.setIfInBounds_toArray, List.set_cons_zero, List.set_cons_succ]
  refine wpAnyH_done (by kernel_rfl) ?_ _
  have HBF := hid HQ3.out.1
  have HXF := hid HQ3.out.2.1
  have HFF3 := hid HQ3.out.2.2
  clear HQ0 HQ1 HQ2 HQ3 HKS HTU HWI HWD HWE hHeld hHeld1 hHeld2 hHeld3
  obtain ⟨m0, m1, m2⟩ := mcells_of HXF.out
  cases f1 : finB N1 with
  | false =>
    rw [f1] at HIS1
    have HZF : Hid (Z = .tuple #[.float .f64 0, .float .f64 0, .float .f64 0, .int .i64 5]) := by
      rw [← hZ.out]
      unfold nrmA nrmB
      rw [hN1.out, f1]
      rfl
    clear f1
    go_wp2_with fail
    refine (HIS1.out _).mono ?_
    rintro e ww ⟨rfl, hw⟩
    rw [hw]
    clear hw
    go_wp2_with fail
    exact bodyPost_ret (v := .tuple #[.float .f64 0, .float .f64 0, .float .f64 0, .int .i64 5]) (by simp [results, Try.results77, go_sem]) rfl ⟨by rw [HZF.out], HBF.out⟩
  | true =>
    rw [f1] at HIS1
    cases f2 : finB N2 with
    | false =>
      rw [f2] at HIS2
      have HZF : Hid (Z = .tuple #[.float .f64 0, .float .f64 0, .float .f64 0, .int .i64 5]) := by
        rw [← hZ.out]
        unfold nrmA nrmB
        rw [hN1.out, hN2.out, f1, f2]
        rfl
      clear f1 f2
      go_wp2_with fail
      refine (HIS1.out _).mono ?_
      rintro e ww ⟨rfl, hw⟩
      rw [hw]
      clear hw
      go_wp2_with fail
      refine (HIS2.out _).mono ?_
      rintro e ww ⟨rfl, hw⟩
      rw [hw]
      clear hw
      go_wp2_with fail
      exact bodyPost_ret (v := .tuple #[.float .f64 0, .float .f64 0, .float .f64 0, .int .i64 5]) (by simp [results, Try.results77, go_sem]) rfl ⟨by rw [HZF.out], HBF.out⟩
    | true =>
      rw [f2] at HIS2
      have HZF : Hid (Z = .tuple #[.float .f64 N1, .float .f64 N2, .float .f64 (nrm3 f N), .int .i64 0]) := by
        rw [← hZ.out, ← hN.out]
        unfold nrmA nrmB
        rw [hN1.out, hN2.out, f1, f2]
        rfl
      have HGL : Hid (∀ k, k ≤ N → widM (fun t => f t % 9223372036854775808) k ≤ 9218868437227405312) := fun k hk => widM_le k (fun t ht => by have := HO1.out t (by omega); have h2 := HLO.out t (by omega); rw [this] at h2; exact Nat.le_of_lt h2)
      have h144 : N ≤ 144 := by rw [← hN.out]; exact HM1.out.1
      clear f1 f2
      go_wp2_with fail
      refine (HIS1.out _).mono ?_
      rintro e ww ⟨rfl, hw⟩
      rw [hw]
      clear hw
      go_wp2_with fail
      refine (HIS2.out _).mono ?_
      rintro e ww ⟨rfl, hw⟩
      rw [hw]
      clear hw
      go_wp2_with fail
      go_loopw [4, 37] (fun gv iv wr => ∃ k : Nat, k ≤ N ∧ gv = .float .f64 (widM (fun t => f t % 9223372036854775808) k) ∧ iv = .int .i64 k ∧ wr = u3) (fun _ iv _ => N - (intOf iv).toNat)
      case atStart => exact ⟨0, Nat.zero_le _, rfl, rfl, rfl⟩
      case round =>
        obtain ⟨k, hk, rfl, rfl, rfl⟩ := hrel
        by_cases hlt : k < N
        · obtain ⟨b, off, hs, _, _, _, hc⟩ : ∃ b off, (some ⟨g, 0, none⟩ : Option Addr) = some ⟨b, off, none⟩ ∧ b < wr.heap.size ∧ N ≤ N ∧ N ≤ 9223372036854775807 ∧ ∀ j, j < N → wr.cell? ⟨b, off + j, none⟩ = some (.float .f64 (o1 j)) ∧ o1 j < 18446744073709551616 := by
            rcases HFF3.out with ⟨h, _⟩ | h
            · cases h
            · exact h
          simp only [Option.some.injEq, Addr.mk.injEq, and_true] at hs
          obtain ⟨hs1, hs2⟩ := hs
          subst hs1 hs2
          have hkI : (k : Int) < (N : Int) := by omega
          have hk0 : (0 : Int) ≤ (k : Int) := by omega
          have hcell := (hc k hlt).1
          rw [HO1.out k hlt] at hcell
          have hmx := fun ts t W => run_gmx (HGL.out k (by omega)) (Nat.le_of_lt (by have := HLO.out k hlt; rw [HO1.out k hlt] at this; exact this)) ts t W
          have HK1 : Hid (widM (fun t => f t % 9223372036854775808) (k + 1) = gmx (widM (fun t => f t % 9223372036854775808) k) (f k % 9223372036854775808)) := rfl
          obtain ⟨G, hG⟩ : ∃ t, Hid (widM (fun t => f t % 9223372036854775808) k = t) := ⟨_, rfl⟩
          obtain ⟨x, hx⟩ : ∃ t, Hid (f k % 9223372036854775808 = t) := ⟨_, rfl⟩
          rw [hG.out, hx.out] at hmx HK1
          rw [hx.out] at hcell
          rw [hG.out]
          obtain ⟨Q, hQ⟩ : ∃ t, Hid (gmx G x = t) := ⟨_, rfl⟩
          rw [hQ.out] at hmx HK1
          rw [Nat.zero_add] at hcell
          have HK := hid hlt
          clear hc hlt
          go_wp2_with fail
          have hk1 := HK.out
          refine ⟨⟨k + 1, by omega, by rw [HK1.out], by go_num, trivial⟩, ?_⟩
          simp [intOf]; omega
        · obtain rfl : k = N := by omega
          go_wp2_with fail
          exact bodyPost_ret (v := .tuple #[.float .f64 N1, .float .f64 N2, .float .f64 (nrm3 f k), .int .i64 0]) (by simp [results, Try.results77, go_sem, nrm3]) rfl ⟨by rw [HZF.out], HBF.out⟩
end Go.Proofs.Ythnblidkbcficaa
