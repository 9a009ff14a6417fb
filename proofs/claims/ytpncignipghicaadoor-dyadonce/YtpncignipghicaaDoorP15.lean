
/- What math/bits.TrailingZeros32 does, and dyad's within and May. -/
import Derived.Test.YtpncignipghicaaDoorDyE
import Derived.Test.YtpncignipghicaaDoorP14
import Derived.Test.YtpncignipghicaaDoorP3
import Derived.Test.YtpncignipghicaaDoorP12
import Derived.Deep.QuietTactic
namespace Go.Proofs.YtpncignipghicaaDoor
open Go.RowKit Go.IntWalk

/-- The library's table for words of 32 bits stands in its variable. -/
def Tab32 (w : World) : Prop := ∀ j, j < 32 → w.cell? ⟨1, j, none⟩ = some (.int .u8 (Lib.deBruijn32tab.getD j 0))
theorem Tab32.below {w w' : World} (h : Tab32 w) (hs : 1 < w.heap.size) (hb : Below w.heap.size w w') : Tab32 w' := fun j hj => by rw [hb.cell (p := ⟨1, j, none⟩) hs]; exact h j hj
theorem tz32_key (x a : Nat) (hx : x < 4294967296) (hx0 : x ≠ 0) (hlow : x &&& (4294967296 - x) = a) :
    IntKind.u32.wrap (bits BinOp.and IntKind.u32 (x : Int) (IntKind.u32.wrap (-(x : Int))) * 125613361) / 134217728 = ((a * 125613361 % 4294967296 / 134217728 : Nat) : Int) := by
  have e1 : IntKind.u32.wrap (-(x : Int)) = ((4294967296 - x : Nat) : Int) := by rw [IntKind.wrap_u32]; omega
  rw [e1, u32_and_nat x _ hx (by omega), hlow, IntKind.wrap_u32]
  omega
set_option maxHeartbeats 400000 in
theorem tz32_core (x k idx : Nat) (w : World) (hx0 : ((x : Int) == 0) = false)
    (key : IntKind.u32.wrap (bits BinOp.and IntKind.u32 (x : Int) (IntKind.u32.wrap (-(x : Int))) * 125613361) / 134217728 = (idx : Int))
    (hi : idx < 32) (hk : k < 32) (hcell : w.cell? ⟨1, idx, none⟩ = some (.int .u8 k)) :
    Calls Tryd.prog 71 #[.int .u32 x] w fun e w' => e = .returned (.int .i64 k) ∧ w' = w := by
  have key2 := key
  simp only [IntKind.wrap_u32] at key2
  go_enter Tryd.func71, Tryd.ntmps71
  go_wp2_with (first | simp only [key] | simp only [key2])
  go_ret
  exact ⟨rfl, rfl⟩
def tz32Of (m : Nat) : Nat := Lib.ctz 32 m
theorem tz32_spec (m : Nat) (h0 : m ≠ 0) (h : m < 4294967296) : tz32Of m < 32 ∧ ∃ k, m = 2 ^ tz32Of m * (2 * k + 1) := by
  obtain ⟨k, hk, hl⟩ := Lib.ctzFrom_spec 32 m (by omega) h
  have e : tz32Of m = Lib.ctzFrom 32 m := by simp [tz32Of, Lib.ctz, h0]
  rw [e]
  exact ⟨hl, k, hk⟩
theorem tz32_any (x : Nat) (w : World) (hx : x < 4294967296) (hx0 : x ≠ 0) (hT : Tab32 w) :
    Calls Tryd.prog 71 #[.int .u32 x] w fun e w' => e = .returned (.int .i64 (tz32Of x)) ∧ w' = w := by
  obtain ⟨hlow, hk⟩ := Lib.lowest_bit 32 x hx0 hx
  obtain ⟨hi, htab⟩ := Lib.deBruijn32_at _ hk
  have hcell := hT _ hi
  rw [htab] at hcell
  exact tz32_core x (Lib.ctz 32 x) _ w (by simpa using hx0) (tz32_key x _ hx hx0 hlow) hi hk hcell
set_option maxHeartbeats 400000 in
theorem within_any (e : Int) (w : World) (h1 : -100000 ≤ e) (h2 : e ≤ 100000) :
    Calls Tryd.prog 58 #[.int .i64 e] w fun r w' => r = .returned (.bool true) ∧ w' = w := by
  go_enter Tryd.func58, Tryd.ntmps58
  go_wp2
  go_ret
  exact ⟨rfl, rfl⟩
/-- A dyad that may be. -/
def DyMay (neg : Bool) (L : List Nat) (e : Int) : Prop := (L = [] ∧ neg = false ∧ e = 0) ∨ (L ≠ [] ∧ natL L % 2 = 1 ∧ CanL L ∧ L.length ≤ 2048 ∧ -100000 ≤ e ∧ e ≤ 100000)
set_option maxHeartbeats 1000000 in
theorem May_yes (neg : Bool) (L : List Nat) (a : Option Addr) (cap : Nat) (e : Int) (w : World) (hm : MagAt w a L) (h : DyMay neg L e) :
    Calls Tryd.prog 28 #[.agg #[.bool neg, .slice a L.length cap, .int .i64 e]] w fun r w' => r = .returned (.bool true) ∧ Below w.heap.size w w' := by
  rcases h with ⟨rfl, rfl, rfl⟩ | ⟨h0, hodd, hcan, hlen, he1, he2⟩
  · show Calls Tryd.prog 28 #[.agg #[.bool false, .slice a 0 cap, .int .i64 0]] w _
    clear hm
    go_enter Tryd.func28, Tryd.ntmps28
    go_wp2
    go_ret
    exact ⟨rfl, (Below.refl _ _).alloc (Nat.le_refl _) _⟩
  · have hl0 : L.length ≠ 0 := fun c => h0 (List.length_eq_zero_iff.1 c)
    obtain ⟨b, off, rfl, hb, hc0⟩ := hm 0 (by omega)
    obtain ⟨b', off', e', hb', hc1⟩ := hm (L.length - 1) (by omega)
    cases e'
    have hx := hcan h0
    have hy := natL_mod L
    rw [hodd] at hy
    obtain ⟨n, hn⟩ : ∃ n, Hid (L.length = n) := ⟨_, rfl⟩
    rw [hn.out] at hlen hl0 hc1 hx ⊢
    obtain ⟨x, hx'⟩ : ∃ x, Hid (L.getD (n - 1) 0 = x) := ⟨_, rfl⟩
    obtain ⟨y, hy'⟩ : ∃ y, Hid (L.getD 0 0 = y) := ⟨_, rfl⟩
    rw [hx'.out] at hc1 hx
    rw [hy'.out, Nat.add_zero] at hc0
    rw [hy'.out] at hy
    obtain ⟨k, hk⟩ : ∃ k, Hid (n = k + 1) := ⟨n - 1, show n = n - 1 + 1 by omega⟩
    have hkk : n - 1 = k := by have := hk.out; omega
    rw [hkk] at hc1
    have hk1 : IntKind.i64.wrap ((n : Int) - 1) = (k : Int) := by have := hk.out; rw [IntWalk.i64_in _ (by omega)]; omega
    have hk2 : (n : Int) - 1 = (k : Int) := by have := hk.out; omega
    have hkn : ((n : Int) == 0) = false := by simp; omega
    have hkb : (k : Int) < (n : Int) := by omega
    have hxb : ((x : Int) == 0) = false := by simpa using hx
    have hyb : (y : Int) % 2 = 1 := by omega
    have hlI : (n : Int) ≤ 2048 := by omega
    have h0n : (0 : Int) < (n : Int) := by omega
    clear hkk
    have hbw : b < w.heap.size := hb
    have HW := hid (fun (W : World) => within_any e W he1 he2)
    clear hm hodd hcan hy hlen hl0 h0 hb hb' he1 he2 hx' hy' hn hk
    go_enter Tryd.func28, Tryd.ntmps28
    go_wp2_with fail
    refine (HW.out _).mono ?_
    rintro r w1 ⟨rfl, rfl⟩
    go_wp2
    go_ret
    exact ⟨ret_bool (by simpa using hx), (Below.refl _ _).alloc (Nat.le_refl _) _⟩
end Go.Proofs.YtpncignipghicaaDoor

namespace Go.Proofs.YtpncignipghicaaDoor
open Go Go.RowKit Go.IntWalk

def setW (o : Nat → Nat) (p v : Nat) : Nat → Nat := fun j => if j = p then v else o j
/-- One step of the inner loop: a word of the product is laid, the rest is carried. -/
theorem times_step (o : Nat → Nat) (n p x y c : Nat) (hp : p < n) : natF (setW o p ((x * y + o p + c) % 4294967296)) n + 4294967296 ^ (p + 1) * ((x * y + o p + c) / 4294967296) = natF o n + 4294967296 ^ p * (x * y + c) := by
  have h1 := natF_set o n p ((x * y + o p + c) % 4294967296) hp
  obtain ⟨t, ht⟩ : ∃ t, x * y + o p + c = t := ⟨_, rfl⟩
  rw [ht] at h1 ⊢
  have e0 : natF (setW o p (t % 4294967296)) n = natF (fun j => if j = p then t % 4294967296 else o j) n := rfl
  rw [e0, Nat.pow_succ]
  have hd : t = 4294967296 * (t / 4294967296) + t % 4294967296 := (Nat.div_add_mod t 4294967296).symm
  have h3 : 4294967296 ^ p * t = 4294967296 ^ p * 4294967296 * (t / 4294967296) + 4294967296 ^ p * (t % 4294967296) := by
    conv => lhs; rw [hd]
    rw [Nat.mul_add, Nat.mul_assoc]
  have h4 : 4294967296 ^ p * t = 4294967296 ^ p * (x * y + c) + 4294967296 ^ p * o p := by
    rw [← ht, ← Nat.mul_add]
    congr 1
    omega
  omega
/-- The words stay words, and the carry too. -/
theorem times_lt (x y u c : Nat) (hx : x < 4294967296) (hy : y < 4294967296) (hu : u < 4294967296) (hc : c < 4294967296) : x * y + u + c < 18446744073709551616 ∧ (x * y + u + c) / 4294967296 < 4294967296 := by
  have h : x * y ≤ 4294967295 * 4294967295 := Nat.mul_le_mul (by omega) (by omega)
  omega
/-- Ahead of the k-th round of the inner loop, in the i-th of the outer one. -/
def XInv (b : List Nat) (x i n V : Nat) (o : Nat → Nat) (k c : Nat) : Prop := natF o n + 4294967296 ^ (i + k) * c = V + 4294967296 ^ i * (x * natL (b.take k)) ∧ c < 4294967296 ∧ (∀ j, o j < 4294967296) ∧ (∀ j, i + b.length ≤ j → o j = 0)
theorem XInv.zero (b : List Nat) (x i n : Nat) (o : Nat → Nat) (hlt : ∀ j, o j < 4294967296) (hz : ∀ j, i + b.length ≤ j → o j = 0) : XInv b x i n (natF o n) o 0 0 :=
  ⟨by show natF o n + _ * 0 = natF o n + _ * (x * 0); simp, by decide, hlt, hz⟩
theorem XInv.step {b : List Nat} {x i n V : Nat} {o : Nat → Nat} {k c : Nat} (h : XInv b x i n V o k c) (hk : k < b.length) (hn : i + b.length ≤ n) (hx : x < 4294967296) (hb : DigL b) : XInv b x i n V (setW o (i + k) ((x * b.getD k 0 + o (i + k) + c) % 4294967296)) (k + 1) ((x * b.getD k 0 + o (i + k) + c) / 4294967296) := by
  obtain ⟨h1, h2, h3, h4⟩ := h
  refine ⟨?_, (times_lt x _ _ c hx (hb.get k) (h3 _) h2).2, fun j => ?_, fun j hj => ?_⟩
  · have hs := times_step o n (i + k) x (b.getD k 0) c (by omega)
    have e : i + (k + 1) = i + k + 1 := by omega
    rw [e, hs, natL_take_succ b k hk]
    rw [Nat.mul_add (4294967296 ^ (i + k))]
    have e3 : 4294967296 ^ i * (x * (natL (b.take k) + 4294967296 ^ k * b.getD k 0)) = 4294967296 ^ i * (x * natL (b.take k)) + 4294967296 ^ (i + k) * (x * b.getD k 0) := by
      rw [Nat.mul_add x, Nat.mul_add (4294967296 ^ i), Nat.pow_add, ← Nat.mul_assoc x, Nat.mul_comm x (4294967296 ^ k), Nat.mul_assoc (4294967296 ^ k), ← Nat.mul_assoc (4294967296 ^ i) (4294967296 ^ k)]
    rw [e3]
    omega
  · unfold setW
    split
    · exact Nat.mod_lt _ (by decide)
    · exact h3 j
  · unfold setW
    rw [if_neg (by omega)]
    exact h4 j hj
/-- Behind the inner loop the carry is laid too: a row more. -/
theorem XInv.row {b : List Nat} {x i n V : Nat} {o : Nat → Nat} {c : Nat} (h : XInv b x i n V o b.length c) (hn : i + b.length < n) : natF (setW o (i + b.length) c) n = V + 4294967296 ^ i * (x * natL b) ∧ (∀ j, setW o (i + b.length) c j < 4294967296) ∧ (∀ j, i + 1 + b.length ≤ j → setW o (i + b.length) c j = 0) := by
  obtain ⟨h1, h2, h3, h4⟩ := h
  rw [List.take_length] at h1
  have hs := natF_set o n (i + b.length) c hn
  rw [h4 _ (Nat.le_refl _), Nat.mul_zero, Nat.add_zero] at hs
  refine ⟨?_, fun j => ?_, fun j hj => ?_⟩
  · have e0 : natF (setW o (i + b.length) c) n = natF (fun j => if j = i + b.length then c else o j) n := rfl
    rw [e0, hs]
    exact h1
  · unfold setW
    split
    · exact h2
    · exact h3 j
  · unfold setW
    rw [if_neg (by omega)]
    exact h4 j (by omega)
end Go.Proofs.YtpncignipghicaaDoor

namespace Go.Proofs.YtpncignipghicaaDoor
open Go.RowKit Go.IntWalk

set_option maxRecDepth 4000 in
set_option maxHeartbeats 4000000 in
theorem dtimes_any (A B : List Nat) (a b : Option Addr) (ca cb : Nat) (w : World) (hA : MagAt w a A) (hB : MagAt w b B) (hnA : A.length ≤ 400000) (hnB : B.length ≤ 400000) (dA : DigL A) (dB : DigL B) :
    Calls Tryd.prog 43 #[.slice a A.length ca, .slice b B.length cb] w fun r w' => MagOk (natL A * natL B) (A.length + B.length) r w' ∧ Below w.heap.size w w' := by
  have HA := hid hA
  have HB := hid hB
  obtain ⟨n, hnl⟩ : ∃ n, Hid (A.length = n) := ⟨_, rfl⟩
  obtain ⟨m, hml⟩ : ∃ m, Hid (B.length = m) := ⟨_, rfl⟩
  rw [hnl.out] at hnA ⊢
  rw [hml.out] at hnB ⊢
  obtain ⟨M, hM⟩ : ∃ M, Hid (n + m = M) := ⟨_, rfl⟩
  have hM1 : IntKind.i64.wrap ((n : Int) + (m : Int)) = (M : Int) := by have := hM.out; rw [IntWalk.i64_in _ (by omega)]; omega
  have hM2 : (n : Int) + (m : Int) = (M : Int) := by have := hM.out; omega
  have hmk := run_make_row' (P := Tryd.prog) 23 39 (.int .u32 0) 4 Tryd.underlying23 infoU rfl .i64 .i64 M (by have := hM.out; omega) (by have := hM.out; omega)
  rw [hM.out]
  clear hA hB
  go_enter Tryd.func43, Tryd.ntmps43
  go_wp2
  go_loopw [19] (fun i wr => ∃ (k : Nat) (o : Nat → Nat), k ≤ n ∧ i = .int .i64 k ∧ Hid (wr.rowIs w.heap.size 39 M (fun j => .int .u32 (o j))) ∧ Hid (natF o M = natL (A.take k) * natL B ∧ (∀ j, o j < 4294967296) ∧ (∀ j, k + m ≤ j → o j = 0)) ∧ Hid (Below w.heap.size w wr)) (fun i _ => n - (intOf i).toNat)
  case atStart => exact ⟨0, fun _ => 0, Nat.zero_le _, rfl, World.rowIs_made w (.int .u32 0) M _, ⟨by rw [natF_zero]; show 0 = 0 * _; rw [Nat.zero_mul], fun _ => (show 0 < 4294967296 by decide), fun _ _ => rfl⟩, (Below.refl _ _).alloc (Nat.le_refl _) _⟩
  case round =>
    obtain ⟨k, o, hkn, rfl, HR, HI, HBW⟩ := hrel
    by_cases hlt : k < n
    · have hltI : (k : Int) < (n : Int) := by omega
      have HKN := hid hlt
      have hxl := dA.get k
      obtain ⟨x, hx⟩ : ∃ x, Hid (A.getD k 0 = x) := ⟨_, rfl⟩
      rw [hx.out] at hxl
      have HXL := hid hxl
      have HM0 := hid (XInv.zero B x k M o HI.out.2.1 (fun j hj => HI.out.2.2 j (by rw [← hml.out]; exact hj)))
      obtain ⟨V, hV⟩ : ∃ V, Hid (natF o M = V) := ⟨_, rfl⟩
      rw [hV.out] at HM0
      have HKI : Hid (k + m < M) := by have := hM.out; have := HKN.out; show k + m < M; omega
      obtain ⟨ba, oa, rfl, hba, hca1⟩ := HA.out k (by rw [hnl.out]; exact HKN.out)
      have hca2 : wr.cell? ⟨ba, oa + k, none⟩ = some (.int .u32 x) := by
        rw [HBW.out.cell (p := ⟨ba, oa + k, none⟩) hba, ← hx.out]
        exact hca1
      clear hlt hkn hxl hba hca1
      go_wp2
      go_loopw [8, 26] (fun cv kv wr2 => ∃ (l c : Nat) (o2 : Nat → Nat), l ≤ m ∧ kv = .int .i64 l ∧ cv = .int .u64 c ∧ Hid (wr2.rowIs w.heap.size 39 M (fun j => .int .u32 (o2 j))) ∧ Hid (XInv B x k M V o2 l c) ∧ Hid (Below w.heap.size w wr2)) (fun _ kv _ => m - (intOf kv).toNat)
      case atStart => exact ⟨0, 0, o, Nat.zero_le _, rfl, rfl, HR, HM0, HBW⟩
      case round =>
        obtain ⟨l, c, o2, hlm, rfl, rfl, HR2, HI2, HBW2⟩ := hrel
        by_cases hl2 : l < m
        · obtain ⟨bb, ob, rfl, hbb, hcb1⟩ := HB.out l (by rw [hml.out]; exact hl2)
          have hcb2 : wr.cell? ⟨bb, ob + l, none⟩ = some (.int .u32 (B.getD l 0)) := by
            rw [HBW2.out.cell (p := ⟨bb, ob + l, none⟩) hbb]
            exact hcb1
          clear hbb hcb1
          have HST := hid (HI2.out.step (by rw [hml.out]; exact hl2) (by rw [hml.out]; have := HKI.out; omega) HXL.out dB)
          obtain ⟨i1, i2, i3, i4⟩ := HI2.out
          have hyl := dB.get l
          obtain ⟨y, hy⟩ : ∃ y, Hid (B.getD l 0 = y) := ⟨_, rfl⟩
          rw [hy.out] at hcb2 hyl HST
          obtain ⟨P, hP⟩ : ∃ P, Hid (k + l = P) := ⟨_, rfl⟩
          have hP1 : IntKind.i64.wrap ((k : Int) + (l : Int)) = (P : Int) := by have := hP.out; rw [IntWalk.i64_in _ (by omega)]; omega
          have hP2 : (k : Int) + (l : Int) = (P : Int) := by have := hP.out; omega
          have hP3 : IntKind.i64.wrap (P : Int) = (P : Int) := by have := hP.out; rw [IntWalk.i64_in _ (by omega)]
          have hPM : P < M := by have := hP.out; have := HKI.out; omega
          have hPI : (P : Int) < (M : Int) := by omega
          have hlI : (l : Int) < (m : Int) := by omega
          rw [hP.out] at HST
          have cx := HR2.out.cell (i := P) hPM
          have fx := HR2.out.frozen
          have hlt2 := HR2.out.lt
          have hul := i3 P
          obtain ⟨u, hu⟩ : ∃ u, Hid (o2 P = u) := ⟨_, rfl⟩
          rw [hu.out] at cx hul HST
          obtain ⟨t1, t2⟩ := times_lt x y u c HXL.out hyl hul i2
          obtain ⟨X1, hX1⟩ : ∃ X1, Hid (x * y = X1) := ⟨_, rfl⟩
          rw [hX1.out] at t1 t2 HST
          obtain ⟨X2, hX2⟩ : ∃ X2, Hid (X1 + u = X2) := ⟨_, rfl⟩
          rw [hX2.out] at t1 t2 HST
          obtain ⟨T, hT⟩ : ∃ T, Hid (X2 + c = T) := ⟨_, rfl⟩
          rw [hT.out] at t1 t2 HST
          have hwx : IntKind.u64.wrap (x : Int) = (x : Int) := by have := HXL.out; rw [IntKind.wrap_u64]; omega
          have hwy : IntKind.u64.wrap (y : Int) = (y : Int) := by rw [IntKind.wrap_u64]; omega
          have hwu : IntKind.u64.wrap (u : Int) = (u : Int) := by rw [IntKind.wrap_u64]; omega
          have hm0 : (x : Int) * (y : Int) = (X1 : Int) := by rw [← hX1.out, Int.natCast_mul]
          have hm1 : IntKind.u64.wrap (X1 : Int) = (X1 : Int) := by have := hX2.out; have := hT.out; rw [IntKind.wrap_u64]; omega
          have hm2 : (X1 : Int) + (u : Int) = (X2 : Int) := by have := hX2.out; omega
          have hm3 : IntKind.u64.wrap (X2 : Int) = (X2 : Int) := by have := hT.out; rw [IntKind.wrap_u64]; omega
          have hm4 : (c : Int) + (X2 : Int) = (T : Int) := by have := hT.out; omega
          have hm5 : IntKind.u64.wrap (T : Int) = (T : Int) := by rw [IntKind.wrap_u64]; omega
          obtain ⟨lo, hlo⟩ : ∃ lo, Hid (T % 4294967296 = lo) := ⟨_, rfl⟩
          obtain ⟨hi, hhi⟩ : ∃ hi, Hid (T / 4294967296 = hi) := ⟨_, rfl⟩
          have hl1 : IntKind.u32.wrap (T : Int) = (lo : Int) := by have := hlo.out; rw [IntKind.wrap_u32]; omega
          have hh1 : (T : Int) / 4294967296 = (hi : Int) := by have := hhi.out; omega
          rw [hlo.out, hhi.out] at HST
          clear i1 i2 i3 i4 t1 t2 hul hyl
          go_wp2
          go_roundw
          case rel =>
            refine ⟨l + 1, hi, setW o2 P lo, by omega, by go_num, rfl, ?_, HST, ?_⟩
            · refine (HR2.out.set P _).congr (fun j _ => ?_)
              unfold setW
              by_cases hj : j = P
              · rw [if_pos hj, if_pos hj]
              · rw [if_neg hj, if_neg hj]
            · exact Below.setCell HBW2.out (Nat.le_refl _) _
          case measure => simp [intOf]; omega
        · have hlm' : l = m := by omega
          subst hlm'
          have hIr := HI2.out
          rw [← hml.out] at hIr
          obtain ⟨q1, q2, q3⟩ := hIr.row (by rw [hml.out]; exact HKI.out)
          have hcl := HI2.out.2.1
          rw [hml.out] at q1 q2 q3
          obtain ⟨Q, hQ⟩ : ∃ Q, Hid (k + l = Q) := ⟨_, rfl⟩
          rw [hQ.out] at q1 q2 q3
          have hQ2 : (k : Int) + (l : Int) = (Q : Int) := by have := hQ.out; omega
          have hQ3 : IntKind.i64.wrap (Q : Int) = (Q : Int) := by have := hQ.out; rw [IntWalk.i64_in _ (by omega)]
          have hQM : Q < M := by have := hQ.out; have := HKI.out; omega
          have hQI : (Q : Int) < (M : Int) := by omega
          have cx := HR2.out.cell (i := Q) hQM
          have fx := HR2.out.frozen
          have hlt2 := HR2.out.lt
          have hwc : IntKind.u32.wrap (c : Int) = (c : Int) := by rw [IntKind.wrap_u32]; omega
          have HNX : Hid (natF (setW o2 Q c) M = natL (A.take (k + 1)) * natL B ∧ (∀ j, setW o2 Q c j < 4294967296) ∧ (∀ j, k + 1 + l ≤ j → setW o2 Q c j = 0)) := by
            refine ⟨?_, q2, q3⟩
            rw [q1, ← hV.out, HI.out.1, natL_take_succ A k (by rw [hnl.out]; exact HKN.out), hx.out, Nat.add_mul, Nat.mul_assoc]
          clear q1 q2 q3 hIr hcl
          go_wp2
          go_roundw
          case rel =>
            refine ⟨k + 1, setW o2 Q c, HKN.out, by go_num, ?_, HNX, Below.setCell HBW2.out (Nat.le_refl _) _⟩
            refine (HR2.out.set Q _).congr (fun j _ => ?_)
            unfold setW
            by_cases hj : j = Q
            · rw [if_pos hj, if_pos hj]
            · rw [if_neg hj, if_neg hj]
          case measure => have := HKN.out; simp [intOf]; omega
    · have hkn' : k = n := by omega
      subst hkn'
      have HT := hid (trim_row o M w.heap.size (natL A * natL B) wr HR.out (by rw [HI.out.1, ← hnl.out, List.take_length]) HI.out.2.1 (by have := hM.out; omega))
      have HBE := HBW
      clear HR HI
      go_wp2_with fail
      refine HT.out.mono ?_
      rintro r w1 ⟨hr, rfl⟩
      obtain ⟨L', a', cap', rfl, hr2⟩ := hr
      have HE := hid hr2
      clear hr2
      go_wp2
      go_ret
      exact ⟨⟨L', a', cap', rfl, HE.out⟩, HBE.out⟩
end Go.Proofs.YtpncignipghicaaDoor
