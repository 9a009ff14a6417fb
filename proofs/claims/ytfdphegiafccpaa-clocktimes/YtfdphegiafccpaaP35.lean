
/- What the document's short does: a magnitude over one word. -/
import Derived.Test.YtfdphegiafccpaaP34
namespace Go.Proofs.Ytfdphegiafccpaa
open Go.RowKit Go.IntWalk

/-- A word of the quotient by one word. -/
def sWord (L : List Nat) (d k : Nat) : Nat := natL L / d / 4294967296 ^ k % 4294967296
theorem s_drop (L : List Nat) (hD : DigL L) (d k : Nat) : natL L / d / 4294967296 ^ k = natL (L.drop k) / d := by
  rw [Nat.div_div_eq_div_mul, Nat.mul_comm, ← Nat.div_div_eq_div_mul, natL_div L hD]
/-- One step of the division. -/
theorem s_step (L : List Nat) (hD : DigL L) (d i r x : Nat) (hd : 0 < d) (hr : natL (L.drop (i + 1)) % d = r) (hx : L.getD i 0 = x) : (r * 4294967296 + x) / d = sWord L d i ∧ (r * 4294967296 + x) % d = natL (L.drop i) % d := by
  have hxl : x < 4294967296 := by rw [← hx]; exact hD.get i
  have hrd : r < d := by rw [← hr]; exact Nat.mod_lt _ hd
  have e := natL_drop L i
  rw [hx] at e
  have e2 := Nat.div_add_mod (natL (L.drop (i + 1))) d
  rw [hr] at e2
  unfold sWord
  rw [s_drop L hD, e]
  generalize natL (L.drop (i + 1)) / d = Q at *
  generalize natL (L.drop (i + 1)) = N at *
  have e3 : x + 4294967296 * N = d * (4294967296 * Q) + (r * 4294967296 + x) := by
    rw [← e2, Nat.mul_add, Nat.mul_left_comm]
    omega
  have hlt : (r * 4294967296 + x) / d < 4294967296 := by
    rw [Nat.div_lt_iff_lt_mul hd]
    have : (r + 1) * 4294967296 ≤ d * 4294967296 := Nat.mul_le_mul_right _ hrd
    rw [Nat.mul_comm]
    omega
  constructor
  · rw [e3, Nat.mul_add_div hd]
    generalize (r * 4294967296 + x) / d = q at *
    omega
  · rw [e3, Nat.mul_add_mod]
theorem s_val (L : List Nat) (hD : DigL L) (d : Nat) : natF (sWord L d) L.length = natL L / d := by
  show natF (fun i => natL L / d / 4294967296 ^ i % 4294967296) L.length = _
  rw [natF_digits]
  apply Nat.mod_eq_of_lt
  exact Nat.lt_of_le_of_lt (Nat.div_le_self _ _) (natL_lt L hD)
theorem s_row (L : List Nat) (d k j q : Nat) (hq : sWord L d k = q) : (if j = k then Value.int .u32 (q : Int) else Value.int .u32 ((if k + 1 ≤ j then sWord L d j else 0 : Nat) : Int)) = Value.int .u32 ((if k ≤ j then sWord L d j else 0 : Nat) : Int) := by
  by_cases c : j = k
  · subst c
    rw [if_pos rfl, if_pos (Nat.le_refl _), hq]
  · rw [if_neg c]
    by_cases c2 : k + 1 ≤ j
    · rw [if_pos c2, if_pos (by omega)]
    · rw [if_neg c2, if_neg (by omega)]
/-- The quotient's words and the rest. -/
def ShOk (L : List Nat) (d : Nat) (r : Ending) (w' : World) : Prop := ∃ (L' : List Nat) (a' : Option Addr) (cap' : Nat), r = .returned (.tuple #[.slice a' L'.length cap', .int .u32 ((natL L % d : Nat) : Int)]) ∧ MagIs (natL L / d) L.length L' a' cap' w'
theorem or_hi (r x : Nat) (hr : r < 4294967296) (hx : x < 4294967296) : bits .or .u64 ((r * 4294967296 : Nat) : Int) (x : Int) = ((r * 4294967296 + x : Nat) : Int) := by
  rw [bits_or_u64_nat _ _ (by omega) (by omega)]
  congr 1
  rw [Nat.mul_comm]
  exact (Nat.two_pow_add_eq_or_of_lt (i := 32) hx r).symm
set_option maxRecDepth 4000 in
set_option maxHeartbeats 2000000 in
theorem short_loop (L : List Nat) (b off cap d : Nat) (w : World) (hb : b < w.heap.size) (hcell : ∀ i, i < L.length → w.cell? ⟨b, off + i, none⟩ = some (.int .u32 (L.getD i 0))) (hd0 : 0 < d) (hd : d < 4294967296) (hn : L.length ≤ 1000000) (hD : DigL L) :
    Calls Try.prog 51 #[.slice (some ⟨b, off, none⟩) L.length cap, .int .u32 d] w fun r w' => ShOk L d r w' ∧ Below w.heap.size w w' := by
  have HC := hid hcell
  have HB := hid hb
  obtain ⟨n, hnl⟩ : ∃ n, Hid (L.length = n) := ⟨_, rfl⟩
  rw [hnl.out] at hn ⊢
  have hmk := run_make_row' (P := Try.prog) 51 33 (.int .u32 0) 4 Try.underlying51 infoU rfl .i64 .i64 n (by omega) (by omega)
  have hdn : ¬ d = 0 := by omega
  have wd : IntKind.u64.wrap (d : Int) = (d : Int) := by rw [IntKind.wrap_u64]; omega
  clear hcell hb
  go_enter Try.func51, Try.ntmps51
  go_wp2
  go_loopw [7, 8] (fun rv iv wr => ∃ (k r : Nat) (i : Int), k ≤ n ∧ rv = .int .u64 r ∧ iv = .int .i64 i ∧ Hid (i = (k : Int) - 1) ∧ Hid (natL (L.drop k) % d = r) ∧ Hid (wr.rowIs w.heap.size 33 n (fun j => .int .u32 ((if k ≤ j then sWord L d j else 0 : Nat) : Int))) ∧ Hid (Below w.heap.size w wr)) (fun _ iv _ => (intOf iv + 1).toNat)
  case atStart =>
    refine ⟨n, 0, (n : Int) - 1, Nat.le_refl _, rfl, rfl, rfl, ?_, ?_, (Below.refl _ _).alloc (Nat.le_refl _) _⟩
    · show natL (L.drop n) % d = 0
      rw [List.drop_eq_nil_of_le (by rw [hnl.out]; exact Nat.le_refl _)]
      exact Nat.zero_mod _
    · exact (World.rowIs_made w (.int .u32 0) n _).congr (fun j hj => by rw [if_neg (by omega)]; rfl)
  case round =>
    obtain ⟨k, r, i, hk, rfl, rfl, HI, HR, HRW, HBW⟩ := hrel
    by_cases h0 : k = 0
    · subst h0
      have hi : ¬ 0 ≤ i := by have := HI.out; omega
      have hrl : r < d := by rw [← HR.out]; exact Nat.mod_lt _ hd0
      have wr32 : IntKind.u32.wrap (r : Int) = (r : Int) := by rw [IntKind.wrap_u32]; omega
      have hR0 : natL L % d = r := HR.out
      have HRW2 : Hid (wr.rowIs w.heap.size 33 n (fun j => .int .u32 (sWord L d j))) := HRW.out.congr (fun j _ => by rw [if_pos (Nat.zero_le _)])
      have HL := hid (show ((List.range n).map (sWord L d)).length = n by rw [List.length_map, List.length_range])
      have HCUT := hid (bcut_any ((List.range n).map (sWord L d)) (some ⟨w.heap.size, 0, none⟩) n wr (row_mag wr _ n _ (sWord L d) HRW2.out) (by rw [HL.out]; exact Nat.le_refl _) (by rw [HL.out]; omega))
      rw [HL.out] at HCUT
      have HR0 := hid hR0
      clear hR0
      go_wp2_with fail
      refine HCUT.out.mono ?_
      rintro e w1 ⟨⟨j, hj, rfl, hv, he⟩, hw⟩
      rw [hw]
      have hDo : DigL ((List.range n).map (sWord L d)) := by
        intro x hx
        obtain ⟨i, _, rfl⟩ := List.mem_map.1 hx
        exact Nat.mod_lt _ (by decide)
      obtain ⟨hcan, hlen⟩ := can_take _ j (by rw [HL.out]; exact hj) he
      have HF : Hid (MagIs (natL L / d) L.length (((List.range n).map (sWord L d)).take j) (some ⟨w.heap.size, 0, none⟩) n wr) := by
        refine ⟨by rw [hlen]; exact hj, by rw [hlen, hnl.out]; exact hj, (row_mag wr _ n _ (sWord L d) HRW2.out).take j, hDo.take j, hcan, ?_⟩
        rw [hv, natF_list, ← hnl.out, s_val L hD d]
      have HLE := hid hlen
      clear hv he hcan hlen hDo hj hw
      go_wp2
      go_ret2
      exact ⟨⟨((List.range n).map (sWord L d)).take j, _, n, by first | (rw [HLE.out, HR0.out]; done) | (rw [HLE.out, HR0.out]; rfl), HF.out⟩, HBW.out⟩
    · obtain ⟨p, rfl⟩ : ∃ p, k = p + 1 := ⟨k - 1, by omega⟩
      have hi : i = (p : Int) := by have := HI.out; omega
      rw [hi]
      have hck : wr.cell? ⟨b, off + p, none⟩ = some (.int .u32 (L.getD p 0)) := by
        rw [HBW.out.cell (p := ⟨b, off + p, none⟩) HB.out]
        exact HC.out p (by rw [hnl.out]; omega)
      obtain ⟨x, hx⟩ : ∃ x, L.getD p 0 = x := ⟨_, rfl⟩
      have hxl : x < 4294967296 := by rw [← hx]; exact hD.get p
      have hrl : r < d := by rw [← HR.out]; exact Nat.mod_lt _ hd0
      obtain ⟨q1, q2⟩ := s_step L hD d p r x hd0 HR.out hx
      rw [hx] at hck
      have hor := or_hi r x (by omega) hxl
      have wsh : IntKind.u64.wrap ((r : Int) * 4294967296) = ((r * 4294967296 : Nat) : Int) := by rw [IntKind.wrap_u64]; omega
      have wx : IntKind.u64.wrap (x : Int) = (x : Int) := by rw [IntKind.wrap_u64]; omega
      obtain ⟨t, ht⟩ : ∃ t, r * 4294967296 + x = t := ⟨_, rfl⟩
      rw [ht] at hor q1 q2
      obtain ⟨y, hy⟩ : ∃ y, r * 4294967296 = y := ⟨_, rfl⟩
      rw [hy] at wsh hor
      have htl : t < 18446744073709551616 := by omega
      obtain ⟨q, hq⟩ : ∃ q, sWord L d p = q := ⟨_, rfl⟩
      have hql : q < 4294967296 := by rw [← hq]; exact Nat.mod_lt _ (by decide)
      rw [hq] at q1
      obtain ⟨r2, hr2⟩ : ∃ r2, t % d = r2 := ⟨_, rfl⟩
      have hr2l : r2 < d := by rw [← hr2]; exact Nat.mod_lt _ hd0
      have h1 : (t : Int).tdiv (d : Int) = (q : Int) := by rw [← q1]; exact (Int.ofNat_tdiv t d).symm
      have h2 : (t : Int).tmod (d : Int) = (r2 : Int) := by rw [← hr2]; exact (Int.ofNat_tmod t d).symm
      have wq : IntKind.u64.wrap (q : Int) = (q : Int) := by rw [IntKind.wrap_u64]; omega
      have wq2 : IntKind.u32.wrap (q : Int) = (q : Int) := by rw [IntKind.wrap_u32]; omega
      have wr2 : IntKind.u64.wrap (r2 : Int) = (r2 : Int) := by rw [IntKind.wrap_u64]; omega
      have hpn : (p : Int) < (n : Int) := by omega
      have hpn2 : p < n := by omega
      have fx := HRW.out.frozen
      have hlt2 := HRW.out.lt
      have HN : Hid (natL (L.drop p) % d = r2) := hid (by rw [← q2]; exact hr2)
      have HRW3 := hid ((HRW.out.set p (.int .u32 (q : Int))).congr (fun j _ => s_row L d p j q hq))
      have HBW3 := hid (HBW.out.setCell (p := ⟨w.heap.size, p, none⟩) (Nat.le_refl _) (.int .u32 (q : Int)))
      have cx := HRW.out.cell (i := p) hpn2
      clear hq hr2 q1 q2 ht hy hx hrl hr2l hql
      go_wp2
      go_roundw
      case rel => exact ⟨p, r2, (p : Int) - 1, by omega, rfl, by go_num, rfl, HN, HRW3, HBW3⟩
      case measure => simp [intOf]
theorem short_any (L : List Nat) (a : Option Addr) (cap d : Nat) (w : World) (hm : MagAt w a L) (h0 : 0 < L.length) (hd0 : 0 < d) (hd : d < 4294967296) (hn : L.length ≤ 1000000) (hD : DigL L) :
    Calls Try.prog 51 #[.slice a L.length cap, .int .u32 d] w fun r w' => ShOk L d r w' ∧ Below w.heap.size w w' := by
  obtain ⟨b, off, rfl, hb, _⟩ := hm 0 h0
  exact short_loop L b off cap d w hb (fun i hi => by
    obtain ⟨b', off', e, _, hc⟩ := hm i hi
    cases e
    exact hc) hd0 hd hn hD
end Go.Proofs.Ytfdphegiafccpaa
