
/- The document's Of64: the numbers of bits, in memory of its own. -/
import Derived.Test.YthakhmnlpmfdgaaP9
import Derived.Test.YthakhmnlpmfdgaaP10
namespace Go.Proofs.Ythakhmnlpmfdgaa
open Go.RowKit Go.IntWalk

theorem U64At.below {W W' : World} {sa : Option Addr} {n : Nat} {xs : List Nat} (h : U64At W sa n xs) (hb : Below W.heap.size W W') : U64At W' sa n xs := by
  refine ⟨h.1, h.2.1, fun hn => ?_⟩
  obtain ⟨b, off, h1, h2, h3⟩ := h.2.2 hn
  exact ⟨b, off, h1, Nat.lt_of_lt_of_le h2 hb.size, fun i hi => by rw [hb.cell (p := ⟨b, off + i, none⟩) h2]; exact h3 i hi⟩
theorem take_next (xs : List Nat) (k : Nat) (h : k < xs.length) : xs.take (k + 1) = xs.take k ++ [xs.getD k 0] := by
  rw [List.take_add_one, List.getD_eq_getElem?_getD, List.getElem?_eq_getElem h]
  rfl
set_option maxHeartbeats 1000000 in
theorem Of64_any (sa : Option Addr) (sn sc : Nat) (xs : List Nat) (w : World) (hu : U64At w sa sn xs) (hn : sn ≤ 17592186043904) :
    Calls Try.prog 22 #[.slice sa sn sc] w fun r w' => ∃ v, r = .returned v ∧ Owns w' w.heap.size v xs ∧ (xs = [] → v = .slice none 0 0) ∧ Below w.heap.size w w' := by
  have HU := hid hu
  obtain ⟨i0, hi, hz0, hz1, hz2⟩ := info_parts info_f
  have h2 := f64from
  clear hu
  go_enter Try.func22, Try.ntmps22
  go_wp2_with fail
  go_loopw [3, 8] (fun u i wr => ∃ k : Nat, k ≤ sn ∧ i = .int .i64 k ∧ Hid (Owns wr w.heap.size u (xs.take k)) ∧ Hid (Below w.heap.size w wr) ∧ Hid (k = 0 → u = .slice none 0 0)) (fun _ i _ => sn - (intOf i).toNat)
  case atStart => exact ⟨0, Nat.zero_le _, rfl, World.ownsRow_nil _ _ _ _, Below.refl _ _, fun _ => rfl⟩
  case round =>
    obtain ⟨k, hk, rfl, HO, HB, HNIL⟩ := hrel
    by_cases hlt : k < sn
    · obtain ⟨b, off, rfl, hblt, hcell⟩ := HU.out.2.2 (by omega)
      have hck : wr.cell? ⟨b, off + k, none⟩ = some (.int .u64 ((xs.getD k 0 : Nat) : Int)) := by rw [HB.out.cell (p := ⟨b, off + k, none⟩) hblt]; exact hcell k hlt
      have HX : Hid (xs.take (k + 1) = xs.take k ++ [xs.getD k 0]) := take_next xs k (by rw [HU.out.1]; exact hlt)
      have HL : Hid ((xs.take k).length = k) := by show (xs.take k).length = k; rw [List.length_take, HU.out.1]; omega
      obtain ⟨x, hx⟩ : ∃ x, Hid (xs.getD k 0 = x) := ⟨_, rfl⟩
      rw [hx.out] at hck HX
      have hkI : (k : Int) < (sn : Int) := by omega
      have hk0 : (0 : Int) ≤ (k : Int) := by omega
      have hown := HO.out
      have hbw := HB.out.size
      unfold Owns at hown
      rw [HL.out] at hown
      clear hcell hblt
      go_wp2_with (first
        | (at_builtin; (refine wpList_append_own _ rfl _ _ 32 rfl w.heap.size 28 i0 (.float .f64 0) 1 8 Try.underlying32 hi hz0 hz1 hz2 rfl (by decide) _ _ _ rfl (hown.alloc _) ⟨wr.heap.size, 0, none⟩ 1 1 [.float .f64 x] rfl rfl ?c1 ?c2 ?c3 ?c4 ?c5 ?_)))
      case c1 =>
        intro j u hj
        match j, hj with
        | 0, hj => simp at hj; subst hj; simp [Addr.add]
      case c2 => intro u hu; simp at hu; subst hu; rfl
      case c3 => unfold maxLen; omega
      case c4 => omega
      case c5 => simp; omega
      intro v' w1 hown' hgrow _
      have HO2 : Hid (Owns w1 w.heap.size v' (xs.take (k + 1))) := by
        show w1.ownsRow _ _ _ _ _ _
        rw [HX.out, List.length_append, List.map_append, HL.out, List.map_take]
        exact hown'
      have HB2 : Hid (Below w.heap.size w w1) := (HB.out.alloc hbw _).grown hgrow (by simp; omega) (fun k hk => (World.ownsRow.lt hown k hk).1)
      clear hown' hgrow hown hck HO HB
      go_wp2
      refine ⟨⟨k + 1, by omega, by go_num, HO2, HB2, fun h => absurd h (by omega)⟩, ?_⟩
      simp [intOf]; omega
    · have hkn : k = sn := by omega
      subst hkn
      have HE : Hid (xs.take k = xs) := List.take_of_length_le (by rw [HU.out.1]; exact Nat.le_refl _)
      rw [HE.out] at HO
      go_wp2
      go_ret
      exact ⟨_, rfl, HO.out, fun h => HNIL.out (by rw [← HU.out.1, h]; rfl), HB.out⟩
end Go.Proofs.Ythakhmnlpmfdgaa
