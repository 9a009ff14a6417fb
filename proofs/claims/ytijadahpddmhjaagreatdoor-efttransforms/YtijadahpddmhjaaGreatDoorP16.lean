
/- What eft's lay does with one number. -/
import Derived.Test.YtijadahpddmhjaaGreatDoorP8
import Derived.Test.YtijadahpddmhjaaGreatDoorP2
import Derived.WalkKit
namespace Go.Proofs.YtijadahpddmhjaaGreatDoor
open Go.RowKit Go.IntWalk

theorem info_f : (Tryz.prog.info? 23).map (fun i => (i.zero, i.size, i.bytes)) = some (some (.float .f64 0), 1, 8) := by kernel_rfl
/-- The numbers that a slice made here owns. -/
def Owns (w : World) (base : Nat) (v : Value) (xs : List Nat) : Prop := w.ownsRow base 23 1 v xs.length (xs.map (Value.float .f64))
set_option maxRecDepth 4000 in
set_option maxHeartbeats 1000000 in
theorem lay_one (x b base : Nat) (v : Value) (xs : List Nat) (w : World) (hx : x < 18446744073709551616) (h0 : x % 9223372036854775808 ≠ 0) (hown : Owns w base v xs) (hc : w.cell? ⟨b, 0, none⟩ = some (.float .f64 x)) (hb : base ≤ w.heap.size) (hn : xs.length ≤ 1000) :
    Calls Tryz.prog 68 #[v, .slice (some ⟨b, 0, none⟩) 1 1] w fun r w' => ∃ v', r = .returned v' ∧ Owns w' base v' (xs ++ [x]) ∧ Below base w w' := by
  have ho := order_zero x hx
  have ho2 : (FloatKind.f64.format.order x 0 != some .eq) = true := by rw [bne, ho, decide_eq_false h0]; rfl
  obtain ⟨i0, hi, hz0, hz1, hz2⟩ := info_parts info_f
  clear ho
  go_enter Tryz.func68, Tryz.ntmps68
  go_wp2_with fail
  go_loopw [0, 9] (fun u i wr => (i = .int .i64 0 ∧ u = v ∧ wr = w) ∨ (i = .int .i64 1 ∧ Hid (Owns wr base u (xs ++ [x])) ∧ Hid (Below base w wr))) (fun _ i _ => 1 - (intOf i).toNat)
  case atStart => exact Or.inl ⟨rfl, rfl, rfl⟩
  case round =>
    rcases hrel with ⟨rfl, rfl, rfl⟩ | ⟨rfl, HO, HB⟩
    · go_wp2_with (first
        | (at_builtin; (refine wpList_append_own _ rfl _ _ 47 rfl base 23 i0 (.float .f64 0) 1 8 Tryz.underlying47 hi hz0 hz1 hz2 rfl (by decide) _ _ _ rfl (hown.alloc _) ⟨wr.heap.size, 0, none⟩ 1 1 [.float .f64 x] rfl rfl ?c1 ?c2 ?c3 ?c4 ?c5 ?_)))
      case c1 =>
        intro j u hj
        match j, hj with
        | 0, hj => simp at hj; subst hj; simp [Addr.add]
      case c2 => intro u hu; simp at hu; subst hu; rfl
      case c3 => unfold maxLen; omega
      case c4 => omega
      case c5 => simp; omega
      intro v' w1 hown' hgrow _
      have HO : Hid (Owns w1 base v' (xs ++ [x])) := by
        show w1.ownsRow _ _ _ _ _ _
        rw [List.length_append, List.map_append]
        exact hown'
      have HB : Hid (Below base wr w1) := ((Below.refl base wr).alloc hb _).grown hgrow (by simp; omega) (fun k hk => (World.ownsRow.lt hown k hk).1)
      clear hown' hgrow hown hc
      go_wp2
      refine ⟨Or.inr ⟨by go_num, HO, HB⟩, ?_⟩
      simp [intOf]
    · go_wp2
      go_ret
      exact ⟨_, rfl, HO.out, HB.out⟩
end Go.Proofs.YtijadahpddmhjaaGreatDoor
