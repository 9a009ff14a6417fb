
/- Plain arithmetic on trailing zeros, lengths in bits and shifts; no program is spoken of. -/
import Derived.Test.YtpgcelbgmpfliaaDoorQ10
import Derived.Deep.RegionLawGrows
import Derived.Test.YtpgcelbgmpfliaaDoorQ1
import Derived.Lib.TrailingZeros
import Derived.Laws.Bits64b
import Derived.Laws.MathBits
import Derived.Lib.BitFns
namespace Go.Proofs.YtpgcelbgmpfliaaDoor
open Go.RowKit Go.IntWalk

theorem infoU2 : ∃ i, Tryd.prog.info? 23 = some i ∧ i.zero = some (.int .u32 0) ∧ i.size = 1 ∧ i.bytes = 4 := by
  have h := infoU
  cases hi : Tryd.prog.info? 23 with
  | none => rw [hi] at h; cases h
  | some i => rw [hi] at h; simp at h; exact ⟨i, rfl, h.1, h.2.1, h.2.2⟩
theorem below_grown {w w' : World} (h : w.grownBy w' none) : Below w.heap.size w w' := ⟨h.os, h.tape, h.output, h.size, fun k hk => h.block k hk (fun c => by cases c)⟩
theorem append_none (ty : TypeId) (cap : Nat) (w : World) :
    (Builtin.append_ #[64, 64] ty #[.slice none 0 0, .slice none 0 cap]).run Tryd.prog w = .ok (.slice none 0 0) w := by
  obtain ⟨i, hi, hz, hsz, hby⟩ := infoU2
  have hu := Tryd.underlying64
  simp [Builtin.append_, go_sem, Builtin.firstCells, Builtin.lenOf]
theorem addr_add (b o j : Nat) : (⟨b, o, none⟩ : Addr).add j = ⟨b, o + j, none⟩ := by
  unfold Addr.add
  by_cases h : j = 0
  · rw [if_pos h, h, Nat.add_zero]
  · rw [if_neg h]
/-- append to nothing: a copy of the words, in new memory. -/
theorem append_copy (ty : TypeId) (ad : Option Addr) (cap : Nat) (L : List Nat) (w : World) (hm : MagAt w ad L) (hn : L.length ≤ 1000000) :
    ∃ a' cap' w', (Builtin.append_ #[64, 64] ty #[.slice none 0 0, .slice ad L.length cap]).run Tryd.prog w = .ok (.slice a' L.length cap') w' ∧ L.length ≤ cap' ∧ MagAt w' a' L ∧ Below w.heap.size w w' := by
  obtain ⟨i, hi, hz, hsz, hby⟩ := infoU2
  have key : ∀ (a : Addr), ad = some a → (∀ j u, (L.map (fun (d : Nat) => Value.int .u32 (d : Int)))[j]? = some u → w.cell? (a.add j) = some u) → ∃ a' cap' w', (Builtin.append_ #[64, 64] ty #[.slice none 0 0, .slice ad L.length cap]).run Tryd.prog w = .ok (.slice a' L.length cap') w' ∧ L.length ≤ cap' ∧ MagAt w' a' L ∧ Below w.heap.size w w' := by
    intro a ha hc
    subst ha
    obtain ⟨v', w', hrun, r1, r2, _⟩ := run_append_own (P := Tryd.prog) w w.heap.size 64 ty 23 i (.int .u32 0) 1 4 Tryd.underlying64 hi hz hsz hby rfl (by decide) (.slice none 0 0) 0 [] (World.ownsRow_nil w _ _ _) a L.length cap (L.map (fun (d : Nat) => Value.int .u32 (d : Int))) (by simp) hc (fun u hu => by
        obtain ⟨d, _, rfl⟩ := List.mem_map.1 hu
        rfl) (by simp only [maxLen]; omega) (by omega) (Nat.le_refl _)
    rw [Nat.zero_add, List.nil_append] at r1
    have hb := below_grown r2
    rcases r1.2 with ⟨rfl, h0⟩ | ⟨g, cap', cur, rfl, hg, hblk, hle, _, _, _⟩
    · refine ⟨none, 0, w', by rw [hrun, h0], by omega, fun j hj => absurd hj (by omega), hb⟩
    · refine ⟨some ⟨g, 0, none⟩, cap', w', hrun, hle, fun j hj => ⟨g, 0, rfl, (Array.getElem?_eq_some_iff.1 hblk).1, ?_⟩, hb⟩
      have := r1.cells (g := g) rfl j (.int .u32 (L.getD j 0)) (by simp [List.getD, hj])
      rw [addr_add] at this
      exact this
  cases ad with
  | none =>
    have h0 : L.length = 0 := by
      apply Classical.byContradiction
      intro c
      obtain ⟨b, off, e, _⟩ := hm 0 (by omega)
      cases e
    rw [h0]
    exact ⟨none, 0, w, append_none ty cap w, Nat.le_refl _, fun j hj => absurd hj (by omega), Below.refl _ _⟩
  | some a =>
    refine key a rfl (fun j u hu => ?_)
    simp at hu
    obtain ⟨d, hd, rfl⟩ := hu
    have hj : j < L.length := (List.getElem?_eq_some_iff.1 hd).1
    obtain ⟨b, off, e, _, hc⟩ := hm j hj
    cases e
    have : L.getD j 0 = d := by simp [List.getD, hd]
    rw [this] at hc
    rw [addr_add]
    exact hc
/-- The same as one step of a region that draws. -/
theorem step_append_copy {ops : Array Oper} {o : Oper} {a : Act} {w : World} {K : Act → World → Prop} {Q : Exit → Act → World → Prop} {E : Prop}
    (hg : o.guard = none) (s x : Operand) (hop : o.op = Op.call { callee := Callee.builtin Builtin.append, args := #[s, x], argTypes := #[64, 64] })
    (hs : a.eval s = .slice none 0 0) (ad : Option Addr) (n cap : Nat) (hx : a.eval x = .slice ad n cap)
    (hr : ∃ a' cap' w', (Builtin.append_ #[64, 64] o.type #[.slice none 0 0, .slice ad n cap]).run Tryd.prog w = .ok (.slice a' n cap') w' ∧ K (a.put o.dst (.slice a' n cap')) w') :
    if Region.wanted o (yielded ops a.tmps) = true then Oper.wp Tryd.prog o a w K Q else E := by
  have hw : Region.wanted o (yielded ops a.tmps) = true := by simp [Region.wanted, hg]
  rw [if_pos hw]
  obtain ⟨a', cap', w', hrun, hK⟩ := hr
  unfold Oper.wp
  simp [execOp, hop, resolve, invoke, builtin, hs, hx, hrun, Result.andThen]
  exact hK
theorem wpList_append_copy {ops : Array Oper} {rest : List Oper} {o : Oper} {a : Act} {w : World} {Q : Exit → Act → World → Prop}
    (hg : o.guard = none) (s x : Operand) (hop : o.op = Op.call { callee := Callee.builtin Builtin.append, args := #[s, x], argTypes := #[64, 64] })
    (hs : a.eval s = .slice none 0 0) (ad : Option Addr) (n cap : Nat) (hx : a.eval x = .slice ad n cap)
    (hr : ∃ a' cap' w', (Builtin.append_ #[64, 64] o.type #[.slice none 0 0, .slice ad n cap]).run Tryd.prog w = .ok (.slice a' n cap') w' ∧ wpList Tryd.prog ops Q rest (a.put o.dst (.slice a' n cap')) w') :
    wpList Tryd.prog ops Q (o :: rest) a w := by
  obtain ⟨a', cap', w', hrun, hK⟩ := hr
  refine wpList_plain hg fun K hK2 => ?_
  unfold Oper.wp execOp
  simp only [hop, resolve, invoke, builtin, Sem.run_bind, Sem.run_pure, Result.andThen_ok, List.map_toArray, List.map_cons, List.map_nil, hs, hx, hrun]
  exact hK2 _ _ hK
/-- What Set, Neg and Abs need: a sign that is told, and a copy. -/
theorem copy_facts (z x : Nat) (neg : Bool) (L : List Nat) (w : World) (hz : ZOk z w w) (hx : BigAt w x neg L) (hn : L.length ≤ 1000000) :
    ∃ a cap, x < w.heap.size ∧ w.cell? ⟨x, 0, none⟩ = some (.bool neg) ∧ w.cell? ⟨x, 1, none⟩ = some (.slice a L.length cap) ∧
    Hid (∀ ty W, Hid (Below w.heap.size w W) → ∃ a' cap' w', (Builtin.append_ #[64, 64] ty #[.slice none 0 0, .slice a L.length cap]).run Tryd.prog W = .ok (.slice a' L.length cap') w' ∧ Hid (MagIs (natL L) L.length L a' cap' w') ∧ Hid (ZOk z w w') ∧ w'.cell? ⟨x, 0, none⟩ = some (.bool neg)) ∧
    Hid (neg = true → natL L ≠ 0) := by
  obtain ⟨a, cap, ho, hcap, hm, hd, hc, hneg⟩ := hx
  obtain ⟨c0, c1, hf, hlt⟩ := int_cells ho
  refine ⟨a, cap, hlt, c0, c1, fun ty W hb0' => ?_, fun h => ?_⟩
  · have hb0 := hb0'.out
    obtain ⟨a', cap', w', e1, e2, e3, e4⟩ := append_copy ty a cap L W (hm.below hb0) hn
    have hb := bl_then hb0 e4
    exact ⟨a', cap', w', e1, ⟨e2, Nat.le_refl _, e3, hd, hc, rfl⟩, ZOk.below hz hb, by rw [hb.cell (p := ⟨x, 0, none⟩) hlt]; exact c0⟩
  · have := neg_pos hc hneg h
    omega
theorem put_copy (z : Nat) (neg : Bool) (L : List Nat) (w : World) (hn : L.length ≤ 1000000) :
    Hid (∀ w1 a' cap', Hid (ZOk z w w1) → Hid (MagIs (natL L) L.length L a' cap' w1) → Calls Tryd.prog 69 #[.pointer (some ⟨z, 0, none⟩), .bool neg, .slice a' L.length cap'] w1 fun r w' => r = .returned (.pointer (some ⟨z, 0, none⟩)) ∧ Hid (PutIs z (neg && decide (natL L ≠ 0)) (natL L) L.length w w')) := by
  intro w1 a' cap' h1 h2
  exact put_is z neg (natL L) L.length w w1 L a' cap' h1.out h2.out (by omega)
set_option maxHeartbeats 1000000 in
theorem Neg_big (z x : Nat) (neg : Bool) (L : List Nat) (w : World) (hz : ZOk z w w) (hx : BigAt w x neg L) (hn : L.length ≤ 1000000) :
    Calls Tryd.prog 66 #[.pointer (some ⟨z, 0, none⟩), .pointer (some ⟨x, 0, none⟩)] w fun r w' => r = .returned (.pointer (some ⟨z, 0, none⟩)) ∧ PutIs z (!neg && decide (natL L ≠ 0)) (natL L) L.length w w' := by
  obtain ⟨a, cap, hlt, c0, c1, HA, HN⟩ := copy_facts z x neg L w hz hx hn
  have HP := put_copy z (!neg) L w hn
  obtain ⟨k, hk⟩ : ∃ k, Hid (L.length = k) := ⟨_, rfl⟩
  obtain ⟨v, hv⟩ : ∃ v, Hid (natL L = v) := ⟨_, rfl⟩
  rw [hk.out, hv.out] at HA HP ⊢
  rw [hk.out] at c1
  have HD0 : Hid (Below w.heap.size w w) := Below.refl _ _
  have HD1 : Hid (Below w.heap.size w w.drew) := (Below.refl _ _).drew
  clear hz hx hn HN
  cases neg
  all_goals simp only [Bool.not_true, Bool.not_false] at HP ⊢
  all_goals
    go_enter Tryd.func66, Tryd.ntmps66
    go_wp2_with fail
  all_goals go_region_law (first
      | (go_simp; go_wp2_with (go_at_call 69; refine (HP.out _ _ _ (by assumption) (by assumption)).mono ?_; rintro r w1 ⟨rfl, HE⟩); (have hE := HE; clear hE))
      | (refine step_append_copy rfl _ _ rfl rfl a k cap (by first | rfl | (simp [Act.eval]; done) | (simp [Act.eval, Act.put]; done)) ?_; obtain ⟨a', cap', w1, hr, HM, HZ1, k0⟩ := HA.out _ _ HD1; refine ⟨a', cap', w1, hr, ?_⟩; clear hr))
  all_goals go_wp2
  all_goals go_ret
  all_goals exact ⟨rfl, Hid.out (by assumption)⟩
set_option maxHeartbeats 1000000 in
theorem Abs_big (z x : Nat) (neg : Bool) (L : List Nat) (w : World) (hz : ZOk z w w) (hx : BigAt w x neg L) (hn : L.length ≤ 1000000) :
    Calls Tryd.prog 45 #[.pointer (some ⟨z, 0, none⟩), .pointer (some ⟨x, 0, none⟩)] w fun r w' => r = .returned (.pointer (some ⟨z, 0, none⟩)) ∧ PutIs z (false && decide (natL L ≠ 0)) (natL L) L.length w w' := by
  obtain ⟨a, cap, hlt, c0, c1, HA, HN⟩ := copy_facts z x neg L w hz hx hn
  have HP := put_copy z false L w hn
  obtain ⟨k, hk⟩ : ∃ k, Hid (L.length = k) := ⟨_, rfl⟩
  obtain ⟨v, hv⟩ : ∃ v, Hid (natL L = v) := ⟨_, rfl⟩
  rw [hk.out, hv.out] at HA HP ⊢
  rw [hk.out] at c1
  have HD0 : Hid (Below w.heap.size w w) := Below.refl _ _
  have HD1 : Hid (Below w.heap.size w w.drew) := (Below.refl _ _).drew
  clear hz hx hn HN
  go_enter Tryd.func45, Tryd.ntmps45
  go_wp2_with (first
      | (at_builtin; refine wpList_append_copy rfl _ _ rfl rfl a k cap (by first | rfl | (simp [Act.eval]; done) | (simp [Act.eval, Act.put]; done)) ?_; obtain ⟨a', cap', w1, hr, HM, HZ1, k0⟩ := HA.out _ _ HD0; refine ⟨a', cap', w1, hr, ?_⟩; clear hr)
      | (go_at_call 69; refine (HP.out _ _ _ (by assumption) (by assumption)).mono ?_; rintro r w1 ⟨rfl, HE⟩))
  all_goals go_ret
  all_goals exact ⟨rfl, Hid.out (by assumption)⟩
end Go.Proofs.YtpgcelbgmpfliaaDoor

namespace Go.Proofs.YtpgcelbgmpfliaaDoor
open Go Go.RowKit Go.IntWalk

theorem tz_key (x a : Nat) (hx : x < 18446744073709551616) (hx0 : x ≠ 0) (hlow : x &&& (18446744073709551616 - x) = a) :
    IntKind.u64.wrap (bits BinOp.and IntKind.u64 (x : Int) (IntKind.u64.wrap (-(x : Int))) * 285870213051353865) / 288230376151711744 = ((a * 285870213051353865 % 18446744073709551616 / 288230376151711744 : Nat) : Int) := by
  have e1 : IntKind.u64.wrap (-(x : Int)) = ((18446744073709551616 - x : Nat) : Int) := by rw [IntKind.wrap_u64]; omega
  rw [e1, bits_and_u64_nat x _ hx (by omega), hlow, IntKind.wrap_u64]
  omega
/-- The bits of a sign and a magnitude. -/
def signN (neg : Bool) (x : Nat) : Nat := if neg then x + 9223372036854775808 else x
theorem or_sign (x : Nat) (hx : x < 9223372036854775808) : bits .or .u64 (x : Int) 9223372036854775808 = (signN true x : Int) := by
  have h := u64_or_nat x 9223372036854775808 (by omega) (by omega)
  have e : x ||| 9223372036854775808 = x + 9223372036854775808 := by
    rw [Nat.or_comm, Nat.add_comm]
    exact nat_join 63 9223372036854775808 x (by decide) (by simpa using hx)
  rw [e] at h
  exact h
theorem len8tab_at : ∀ j : Fin 256, (Lib.len8tab[j.val]?.getD 0).toNat = bitLen j.val := by decide +kernel
theorem len8_get (y : Int) (h0 : 0 ≤ y) (h1 : y < 256) (h : y.toNat < Lib.len8tab.size) : (Lib.len8tab[y.toNat]'h).toNat = bitLen y.toNat := by
  have e := len8tab_at ⟨y.toNat, by omega⟩
  simp only at e
  rw [getElem?_pos Lib.len8tab y.toNat h] at e
  simpa using e
theorem bitLen_le (n b : Nat) (h : n < 2 ^ b) : bitLen n ≤ b := by
  unfold bitLen
  split
  · omega
  · rename_i h0
    have := (Nat.log2_lt h0).2 h
    omega
theorem len_close (x y : Int) (b : Nat) (hb : b ≤ 56) (hy : y.toNat = x.toNat / 2 ^ b) (h0 : 0 < y) (h1 : y < 256) (h : y.toNat < Lib.len8tab.size) :
    wrap64 ((b : Int) + wrap64 ((Lib.len8tab[y.toNat]'h).toNat : Int)) = (bitLen x.toNat : Int) := by
  rw [len8_get y (by omega) h1 h]
  have l := bitLen_le y.toNat 8 (by simp only [Nat.reducePow]; omega)
  rw [wrap64_in ((bitLen y.toNat : Nat) : Int) (by omega), wrap64_in _ (by omega), bitLen_shift x.toNat b (by omega), hy]
  omega
theorem len_close0 (x : Int) (h0 : 0 ≤ x) (h1 : x < 256) (h : x.toNat < Lib.len8tab.size) :
    wrap64 ((Lib.len8tab[x.toNat]'h).toNat : Int) = (bitLen x.toNat : Int) := by
  rw [len8_get x h0 h1 h]
  have l := bitLen_le x.toNat 8 (by simp only [Nat.reducePow]; omega)
  rw [wrap64_in _ (by omega)]
theorem len_close00 (x : Int) (h0 : 0 ≤ x) (h1 : x < 256) (h : x.toNat < Lib.len8tab.size) :
    wrap64 (wrap64 ((Lib.len8tab[x.toNat]'h).toNat : Int)) = (bitLen x.toNat : Int) := by
  rw [len_close0 x h0 h1 h]
  have l := bitLen_le x.toNat 8 (by simp only [Nat.reducePow]; omega)
  rw [wrap64_in _ (by omega)]
theorem len8_size : Lib.len8tab.size = 256 := Lib.len8tab_size
/-- How many zeros a word ends with. -/
def tzOf (m : Nat) : Nat := Lib.ctz 64 m
theorem tz_spec (m : Nat) (h0 : m ≠ 0) (h : m < 18446744073709551616) : tzOf m < 64 ∧ ∃ k, m = 2 ^ tzOf m * (2 * k + 1) := by
  obtain ⟨k, hk, hl⟩ := Lib.ctzFrom_spec 64 m (by omega) h
  have e : tzOf m = Lib.ctzFrom 64 m := by simp [tzOf, Lib.ctz, h0]
  rw [e]
  exact ⟨hl, k, hk⟩
/-- The mantissa that the fields tell, the bit that isn't written with it. -/
def mantOf (x : Nat) : Nat := if 0 < expOf x then fracOf x + 4503599627370496 else fracOf x
theorem frac_lt (x : Nat) : fracOf x < 4503599627370496 := by unfold fracOf; omega
theorem exp_lt (x : Nat) : expOf x < 2048 := by unfold expOf; omega
theorem mant_lt (x : Nat) : mantOf x < 9007199254740992 := by
  have := frac_lt x
  unfold mantOf; split <;> omega
theorem or_hidden {x : Nat} (h : 0 < expOf x) : bits .or .u64 (fracOf x : Int) 4503599627370496 = (mantOf x : Int) := by
  have hl := frac_lt x
  have hh := u64_or_nat (fracOf x) 4503599627370496 (by omega) (by omega)
  have e : fracOf x ||| 4503599627370496 = fracOf x + 4503599627370496 := by
    rw [Nat.or_comm, Nat.add_comm]
    exact nat_join 52 4503599627370496 (fracOf x) (by decide) (by simpa using hl)
  rw [e] at hh
  unfold mantOf
  rw [if_pos h]
  exact hh
/-- A mantissa made odd. -/
def oddOf (m : Nat) : Nat := m / 2 ^ tzOf m
theorem odd_cast (m : Nat) : (m : Int) / 2 ^ tzOf m = (oddOf m : Int) := by
  unfold oddOf; rw [Int.natCast_ediv, Int.natCast_pow]; rfl
theorem odd_le (m : Nat) : oddOf m ≤ m := Nat.div_le_self _ _
/-- How many bits the mantissa has once it is odd. -/
def lenOf (m : Nat) : Nat := bitLen (oddOf m)
/-- The fraction field of the number with an odd mantissa of so many bits. -/
def wfracOf (m : Nat) : Nat := oddOf m * 2 ^ (53 - lenOf m) % 4503599627370496
theorem wfrac_w (m : Nat) : bits .and .u64 (IntKind.u64.wrap ((oddOf m : Int) * 2 ^ (53 - lenOf m))) 4503599627370495 = (wfracOf m : Int) := by
  have e : IntKind.u64.wrap ((oddOf m : Int) * 2 ^ (53 - lenOf m)) = ((oddOf m * 2 ^ (53 - lenOf m) % 18446744073709551616 : Nat) : Int) := by
    rw [IntKind.wrap_u64, Int.natCast_emod, Int.natCast_mul, Int.natCast_pow]; rfl
  rw [e, and_frac _ (by omega)]
  unfold wfracOf
  omega
theorem wfrac_lt (m : Nat) : wfracOf m < 4503599627370496 := by unfold wfracOf; omega
/-- A magnitude of its two fields. -/
def packN (X f : Nat) : Nat := X * 4503599627370496 + f
theorem pack_w (X f : Nat) (hX : X < 2048) (hf : f < 4503599627370496) : bits .or .u64 (IntKind.u64.wrap (IntKind.u64.wrap (X : Int) * 4503599627370496)) (f : Int) = (packN X f : Int) := by
  have e : IntKind.u64.wrap (IntKind.u64.wrap (X : Int) * 4503599627370496) = ((X * 4503599627370496 : Nat) : Int) := by
    rw [IntKind.wrap_u64, IntKind.wrap_u64]; omega
  rw [e, u64_or_nat _ _ (by omega) (by omega), nat_join 52 _ _ (by omega) (by simpa using hf)]
  rfl
theorem pack_lt (X f : Nat) (hX : X < 2048) (hf : f < 4503599627370496) : packN X f < 9223372036854775808 := by unfold packN; omega
theorem odd_lt (m : Nat) : oddOf m < 2 ^ lenOf m := (bitLen_spec (oddOf m)).1
theorem sub_lt_w (m L : Nat) (h : L + lenOf m ≤ 52) : oddOf m * 2 ^ L < 4503599627370496 := by
  have h1 := odd_lt m
  have h2 : oddOf m * 2 ^ L < 2 ^ lenOf m * 2 ^ L := Nat.mul_lt_mul_of_pos_right h1 (Nat.two_pow_pos L)
  rw [← Nat.pow_add] at h2
  have h3 : 2 ^ (lenOf m + L) ≤ 2 ^ 52 := Nat.pow_le_pow_right (by omega) (by omega)
  have h4 : (2 : Nat) ^ 52 = 4503599627370496 := by decide
  omega
theorem sub_w (m L : Nat) (h : L + lenOf m ≤ 52) : IntKind.u64.wrap ((oddOf m : Int) * 2 ^ L) = ((oddOf m * 2 ^ L : Nat) : Int) := by
  have := sub_lt_w m L h
  have e : (oddOf m : Int) * 2 ^ L = ((oddOf m * 2 ^ L : Nat) : Int) := by rw [Int.natCast_mul, Int.natCast_pow]; rfl
  rw [e, IntKind.wrap_u64]
  omega
/-- The bits of 2^(k - 1074). -/
def powN (k : Nat) : Nat := if k ≤ 51 then 2 ^ k else (k - 51) * 4503599627370496
theorem tz_one : tzOf 1 = 0 := by decide
theorem odd_one : oddOf 1 = 1 := by decide
theorem len_one : lenOf 1 = 1 := by unfold lenOf; rw [odd_one]; decide
theorem wfrac_one : wfracOf 1 = 0 := by unfold wfracOf; rw [odd_one, len_one]
theorem signN_false (x : Nat) : signN false x = x := by unfold signN; rw [if_neg (by decide)]
theorem one_norm (k : Nat) (h : ¬ k ≤ 51) : signN false (packN (k - 51) (wfracOf 1)) = powN k := by
  rw [signN_false, wfrac_one]
  unfold packN powN
  rw [if_neg h, Nat.add_zero]
theorem one_sub (k : Nat) (h : k ≤ 51) : signN false (oddOf 1 * 2 ^ k) = powN k := by
  rw [signN_false, odd_one, Nat.one_mul]
  unfold powN
  rw [if_pos h]
end Go.Proofs.YtpgcelbgmpfliaaDoor
