
/- The document's exact sums of lists: Zero, Sum. -/
import Derived.Test.YtphdinjmkhefmaaGreatDoorP32
import Derived.Test.YtphdinjmkhefmaaGreatDoorP36
import Derived.Test.YtphdinjmkhefmaaGreatDoorP37
import Derived.Test.YtphdinjmkhefmaaGreatDoorP2
import Derived.Test.YtphdinjmkhefmaaGreatDoorP3
import Derived.WalkKit
import Derived.Test.YtphdinjmkhefmaaGreatDoorP1
import Derived.ProofKit
import Derived.OpenShut
import Derived.ChangeSlices
import Derived.WideShapes
import Derived.SizedLaws
import Derived.Carry
namespace Go.Proofs.YtphdinjmkhefmaaGreatDoor
open Go.RowKit Go.IntWalk

theorem NumAt.tight {w : World} {p bd : Nat} {v : Int} (h : NumAt w p v bd) (k : Nat) (hv : v.natAbs < 4294967296 ^ k) : NumAt w p v k := by
  obtain ⟨neg, L, h1, h2, h3⟩ := h
  refine ⟨neg, L, h1, ?_, h3⟩
  obtain ⟨a, cap, ho, hcap, hm, hd, hc, hn⟩ := h3
  refine len_small L k hc ?_
  have : v.natAbs = natL L := by rw [← h1]; unfold intL; split <;> omega
  rw [← this]
  exact hv
theorem ExV.tight {w : World} {p bd : Nat} {e B z : Int} (h : ExV w p e B z bd) (k : Nat) (hz : z.natAbs < 4294967296 ^ k) : ExV w p e B z k := by
  obtain ⟨v, j, h1, h2, h3⟩ := h
  refine ⟨v, j, h1.tight k ?_, h2, h3⟩
  have e : z.natAbs = v.natAbs * 2 ^ j := by rw [h3, Int.natAbs_mul, Int.natAbs_pow]; rfl
  have : v.natAbs * 1 ≤ v.natAbs * 2 ^ j := Nat.mul_le_mul_left _ (Nat.two_pow_pos j)
  omega
theorem sum_le (zs : List Nat) (hf : FinL zs) : ∀ k, k ≤ zs.length → (sumSv zs k).natAbs ≤ k * 2 ^ kN
  | 0, _ => by show (0 : Int).natAbs ≤ _; simp
  | k + 1, hk => by
    have ih := sum_le zs hf k (by omega)
    obtain ⟨_, _, _, j3, _⟩ := sv_parts (zs.getD k 0) (hf k (by omega)).2
    show (sumSv zs k + sv (zs.getD k 0)).natAbs ≤ (k + 1) * 2 ^ kN
    rw [Nat.add_mul, Nat.one_mul]
    omega
theorem pw32 (m : Nat) : (4294967296 : Nat) ^ m = 2 ^ (32 * m) := by rw [show (4294967296 : Nat) = 2 ^ 32 by decide, ← Nat.pow_mul]
theorem small_bd (n k m : Nat) (hn : n ≤ 17592186044416) (h : k + 44 < 32 * m) : n * 2 ^ k < 4294967296 ^ m := by
  rw [pw32]
  have h1 : n * 2 ^ k ≤ 2 ^ (44 + k) := by rw [Nat.pow_add]; exact Nat.mul_le_mul_right _ (by rw [show (2 : Nat) ^ 44 = 17592186044416 by decide]; exact hn)
  exact Nat.lt_of_le_of_lt h1 (Nat.pow_lt_pow_right (by decide) (by omega))
set_option maxRecDepth 4000 in
set_option maxHeartbeats 1000000 in
theorem xZero_any (w : World) : Calls Tryz.prog 7 #[] w fun r w' => ∃ q, r = .returned (.agg #[.pointer (some ⟨q, 0, none⟩), .int .i64 0]) ∧ NumAt w' q 0 0 ∧ Below w.heap.size w w' := by
  go_enter Tryz.func7, Tryz.ntmps7
  go_wp2
  have h1 := fresh_num (w.alloc (XBox (some ⟨w.heap.size + 1, 0, none⟩) 0))
  rw [show (w.alloc (XBox (some ⟨w.heap.size + 1, 0, none⟩) 0)).heap.size = w.heap.size + 1 by simp] at h1
  exact bodyPost_ret (v := .agg #[.pointer (some ⟨w.heap.size + 1, 0, none⟩), .int .i64 0]) (by simp [results, Tryz.results7, go_sem]) rfl ⟨w.heap.size + 1, rfl, h1, ((Below.refl _ _).alloc (Nat.le_refl _) _).alloc (by simp) _⟩
/-- What is kept while a list is added up: the sum's box, the result's. -/
def SumW (w W0 wr : World) (sb : Nat) (z B hi : Int) : Prop := ∃ p e, wr.heap[sb]? = some (XBox (some ⟨p, 0, none⟩) e) ∧ ExV wr p e B z 200 ∧ (B ≤ e ∧ e ≤ hi) ∧ Below w.heap.size w wr ∧ wr.heap[w.heap.size]? = some (XBox none 0) ∧ W0.heap.size ≤ wr.heap.size
theorem box_set {W : World} {b : Nat} {q q' : Option Addr} {e e' : Int} (h : W.heap[b]? = some (XBox q e)) : ((W.setCell ⟨b, 0, none⟩ (.pointer q')).setCell ⟨b, 1, none⟩ (.int .i64 e')).heap[b]? = some (XBox q' e') := by
  unfold XBox at h ⊢
  simp [World.setCell, Array.getElem?_modify, h]
theorem box_keep {W : World} {a b : Nat} (hab : a ≠ b) (x y : Value) : ((W.setCell ⟨b, 0, none⟩ x).setCell ⟨b, 1, none⟩ y).heap[a]? = W.heap[a]? := by
  simp [World.setCell, Array.getElem?_modify, hab.symm]
theorem SumW.next {w W0 wr w' : World} {sb p4 : Nat} {e4 z z' B hi : Int} (h : SumW w W0 wr sb z B hi) (hb : Below wr.heap.size wr w') (hsb : w.heap.size < sb) (hx : ExV w' p4 e4 B z' 200) (he : B ≤ e4 ∧ e4 ≤ hi) :
    SumW w W0 ((w'.setCell ⟨sb, 0, none⟩ (.pointer (some ⟨p4, 0, none⟩))).setCell ⟨sb, 1, none⟩ (.int .i64 e4)) sb z' B hi := by
  obtain ⟨p, e, h1, h2, h3, h4, h5, h6⟩ := h
  have k1 : w'.heap[sb]? = some (XBox (some ⟨p, 0, none⟩) e) := by rw [hb.block _ (Array.getElem?_eq_some_iff.1 h1).1]; exact h1
  have k5 : w'.heap[w.heap.size]? = some (XBox none 0) := by rw [hb.block _ (Array.getElem?_eq_some_iff.1 h5).1]; exact h5
  refine ⟨p4, e4, box_set k1, hx.stored k1 _ _, he, Below.setCell (Below.setCell (h4.trans (hb.mono h4.size)) (Nat.le_of_lt hsb) _) (Nat.le_of_lt hsb) _, by rw [box_keep (by omega)]; exact k5, ?_⟩
  have := hb.size
  simp
  omega
set_option maxRecDepth 4000 in
set_option maxHeartbeats 4000000 in
theorem xSum_fin (zs : List Nat) (b off cap : Nat) (w : World) (hm : NumsAt w b off zs) (hf : FinL zs) (hn : zs.length ≤ 17592186043904) :
    Calls Tryz.prog 9 #[.slice (some ⟨b, off, none⟩) zs.length cap] w fun r w' => ∃ p e, r = .returned (.agg #[.pointer (some ⟨p, 0, none⟩), .int .i64 e]) ∧ (-1074 ≤ e ∧ e ≤ 2000) ∧ ExV w' p e (-1074) (sumSv zs zs.length) 200 ∧ Below w.heap.size w w' := by
  have HM := hid hm
  have HF := hid hf
  have HSM : Hid (∀ k, k ≤ zs.length → (sumSv zs k).natAbs < 4294967296 ^ 200) := fun k hk => Nat.lt_of_le_of_lt (sum_le zs hf k hk) (small_bd k kN 200 (by omega) (by decide))
  obtain ⟨n, hnl⟩ : ∃ n, Hid (zs.length = n) := ⟨_, rfl⟩
  rw [hnl.out] at hn HSM ⊢
  have hblt := hm.1
  clear hm hf
  go_enter Tryz.func9, Tryz.ntmps9
  go_wp2_with fail
  refine (xZero_any _).mono ?_
  rintro r w1 ⟨q, rfl, hn1, hb1⟩
  have HS1 : Hid (w.heap.size < w1.heap.size) := by have := hb1.size; simp at this; show w.heap.size < w1.heap.size; omega
  have HW0 : Hid (SumW w w1 (w1.alloc (XBox (some ⟨q, 0, none⟩) 0)) w1.heap.size 0 (-1074) 2000) := by
    have hal : Below w1.heap.size w1 (w1.alloc (XBox (some ⟨q, 0, none⟩) 0)) := (Below.refl _ _).alloc (Nat.le_refl _) _
    have hb0 : Below w.heap.size w w1 := ((Below.refl _ _).alloc (Nat.le_refl _) _).trans (hb1.mono (by simp))
    refine ⟨q, 0, new_blk _ _ _ rfl, ⟨0, 1074, (hn1.below hal).more (by omega), by decide, by rw [Int.zero_mul]⟩, by decide, hb0.trans (hal.mono hb0.size), ?_, by simp⟩
    rw [hal.block _ HS1.out, hb1.block _ (by simp)]
    exact new_blk _ _ _ rfl
  obtain ⟨V0, hV0⟩ : ∃ V, Hid (w1.alloc (XBox (some ⟨q, 0, none⟩) 0) = V) := ⟨_, rfl⟩
  rw [hV0.out] at HW0
  unfold XBox at hV0
  clear hn1 hb1
  go_wp2_with fail
  rw [hV0.out]
  obtain ⟨sb, hsb⟩ : ∃ sb, Hid (w1.heap.size = sb) := ⟨_, rfl⟩
  rw [hsb.out] at HW0 HS1 ⊢
  go_loopw [9] (fun i wr => ∃ k : Nat, k ≤ n ∧ i = .int .i64 k ∧ Hid (SumW w w1 wr sb (sumSv zs k) (-1074) 2000)) (fun i _ => n - (intOf i).toNat)
  case atStart => exact ⟨0, Nat.zero_le _, rfl, HW0⟩
  case round =>
    obtain ⟨k, hk, rfl, HS⟩ := hrel
    obtain ⟨p, e, s1, s2, s3, s4, s5, s6⟩ := id HS.out
    by_cases hlt : k < n
    · have hck : wr.cell? ⟨b, off + k, none⟩ = some (.float .f64 (zs.getD k 0)) := (HM.out.below s4).2 k (by rw [hnl.out]; exact hlt)
      have hds : sumSv zs (k + 1) = sumSv zs k + sv (zs.getD k 0) := rfl
      obtain ⟨x1, x2⟩ := HF.out k (by rw [hnl.out]; exact hlt)
      obtain ⟨x, hx⟩ : ∃ x, Hid (zs.getD k 0 = x) := ⟨_, rfl⟩
      rw [hx.out] at hck x1 x2 hds
      have HSB : Hid (sb < wr.heap.size) := (Array.getElem?_eq_some_iff.1 s1).1
      have HBR : Hid (b < wr.heap.size) := Nat.lt_of_lt_of_le hblt s4.size
      have HK : Hid (∀ W, Below wr.heap.size wr W → W.cell? ⟨sb, 0, none⟩ = some (.pointer (some ⟨p, 0, none⟩)) ∧ W.cell? ⟨sb, 1, none⟩ = some (.int .i64 e) ∧ (∀ o, W.frozen? ⟨sb, o, none⟩ = false)) := fun W hW => xcells_of ((hW.block _ HSB.out).trans s1)
      obtain ⟨y0, y1, _⟩ := HK.out wr (Below.refl _ _)
      have HOF : Hid (∀ W, Hid (Below wr.heap.size wr W) → Calls Tryz.prog 21 #[.float .f64 x] W fun r w' => ∃ p3 e3, r = .returned (.agg #[.pointer (some ⟨p3, 0, none⟩), .int .i64 e3]) ∧ Hid ((-1074 ≤ e3 ∧ e3 ≤ 2000) ∧ ExV w' p3 e3 (-1074) (sv x) 2) ∧ Hid (Below wr.heap.size wr w') ∧ (w'.cell? ⟨sb, 0, none⟩ = some (.pointer (some ⟨p, 0, none⟩)) ∧ w'.cell? ⟨sb, 1, none⟩ = some (.int .i64 e) ∧ (∀ o, w'.frozen? ⟨sb, o, none⟩ = false))) := fun W hW => by
        refine (xOf_fin x W x1 x2).mono ?_
        rintro r w' ⟨p3, e3, rfl, h1, h2, h3⟩
        have hb := hW.out.trans (h3.mono hW.out.size)
        exact ⟨p3, e3, rfl, ⟨h1, h2⟩, hb, HK.out _ hb⟩
      have HADD : Hid (∀ W p3 e3, Hid (Below wr.heap.size wr W) → Hid ((-1074 ≤ e3 ∧ e3 ≤ 2000) ∧ ExV W p3 e3 (-1074) (sv x) 2) → Calls Tryz.prog 20 #[.agg #[.pointer (some ⟨p, 0, none⟩), .int .i64 e], .agg #[.pointer (some ⟨p3, 0, none⟩), .int .i64 e3]] W fun r w' => ∃ p4 e4, r = .returned (.agg #[.pointer (some ⟨p4, 0, none⟩), .int .i64 e4]) ∧ Hid (SumW w w1 ((w'.setCell ⟨sb, 0, none⟩ (.pointer (some ⟨p4, 0, none⟩))).setCell ⟨sb, 1, none⟩ (.int .i64 e4)) sb (sumSv zs (k + 1)) (-1074) 2000) ∧ (w'.cell? ⟨sb, 0, none⟩ = some (.pointer (some ⟨p, 0, none⟩)) ∧ w'.cell? ⟨sb, 1, none⟩ = some (.int .i64 e) ∧ (∀ o, w'.frozen? ⟨sb, o, none⟩ = false))) := fun W p3 e3 hW h3 => by
        have hs2 := s2.below hW.out
        obtain ⟨⟨g1, g2⟩, g3⟩ := h3.out
        refine (xAdd_val p p3 200 2 e e3 (-1074) _ _ W hs2 g3 (by decide) (by decide) (by omega) (by omega)).mono ?_
        rintro r w' ⟨p4, e4, rfl, ⟨f1, f2⟩, f3, f4⟩
        rw [← hds] at f3
        have hbw : Below wr.heap.size wr w' := hW.out.trans (f4.mono hW.out.size)
        exact ⟨p4, e4, rfl, HS.out.next hbw HS1.out (f3.tight 200 (HSM.out (k + 1) (by omega))) ⟨f1, by omega⟩, HK.out _ hbw⟩
      have HQ0 : Hid (Below wr.heap.size wr wr.drew) := (Below.refl _ _).drew
      have hkI : (k : Int) < (n : Int) := by omega
      have hk0 : (0 : Int) ≤ (k : Int) := by omega
      clear s1 s2 s3 s4 s5 s6 x1 x2 hds
      go_wp2_with fail
      go_region_with (first
          | (go_at_call 21; refine (HOF.out _ HQ0).mono ?_; rintro r w3 ⟨p3, e3, rfl, HX3, HF3, ⟨v0, v1, v2⟩⟩)
          | (go_at_call 20; refine (HADD.out _ _ _ HF3 HX3).mono ?_; rintro r w4 ⟨p4, e4, rfl, HX4, ⟨u0, u1, u2⟩⟩))
      all_goals
        go_wp2
        refine ⟨⟨k + 1, by omega, by go_num, HX4⟩, ?_⟩
        simp [intOf]; omega
    · have hkn : k = n := by omega
      subst hkn
      obtain ⟨y0, y1, y2⟩ := xcells_of s1
      obtain ⟨t0, t1, t2⟩ := xcells_of s5
      have HX := hid (show ExV _ p e (-1074) (sumSv zs k) 200 ∧ (-1074 ≤ e ∧ e ≤ 2000) from ⟨s2, s3⟩)
      have HB := hid s4
      have HR := hid s5
      clear s1 s2 s3 s4 s5 s6
      go_wp2
      exact bodyPost_ret (v := .agg #[.pointer (some ⟨p, 0, none⟩), .int .i64 e]) (by simp [results, Tryz.results9, go_sem, t0, t1]) rfl ⟨p, e, rfl, HX.out.2, HX.out.1.stored HR.out _ _, Below.setCell (Below.setCell HB.out (Nat.le_refl _) _) (Nat.le_refl _) _⟩
end Go.Proofs.YtphdinjmkhefmaaGreatDoor

namespace Go.Proofs.YtphdinjmkhefmaaGreatDoor
open Go.RowKit Go.IntWalk

theorem info_f : (Tryz.prog.info? 43).map (fun i => (i.zero, i.size, i.bytes)) = some (some (.float .f64 0), 1, 8) := by kernel_rfl
/-- The numbers that a slice made here owns. -/
def Owns (w : World) (base : Nat) (v : Value) (xs : List Nat) : Prop := w.ownsRow base 43 1 v xs.length (xs.map (Value.float .f64))
end Go.Proofs.YtphdinjmkhefmaaGreatDoor

namespace Go.Proofs.YtphdinjmkhefmaaGreatDoor
open Go.ChangeShapes Go.WideShapes Go.ChangeAt Go.RowKit

/-- The numbers of a list, where it lies. -/
def U64At (W : World) (sa : Option Addr) (n : Nat) (xs : List Nat) : Prop := xs.length = n ∧ (∀ x ∈ xs, x < 18446744073709551616) ∧ (n ≠ 0 → ∃ b off, sa = some ⟨b, off, none⟩ ∧ b < W.heap.size ∧ ∀ i, i < n → W.cell? ⟨b, off + i, none⟩ = some (.int .u64 ((xs.getD i 0 : Nat) : Int)))
theorem u64_wf {n : Int} (h : (Lit.int .u64 n).wf = true) : 0 ≤ n ∧ n < 18446744073709551616 := by
  have := bounds_u64 h
  omega
theorem open_u64s {H : Type} {enc : TypeId × Value → H} {P : Program} {W : World} {base : Nat} {t e : TypeId} {v : Value} {d : DataW H} {p : List MemPlace} (ht : P.underlying t = some (.slice e)) (he : P.underlying e = some (.int .u64)) (hc : P.cellsOf e = 1) (hv : Value.okWide P W .any base t v) (h : DataW.Trod enc P W 0 (fun _ => true) true t v d p) (hlt : ∀ x ∈ p, x.block < W.heap.size) :
    ∃ sa n cap xs, v = .slice sa n cap ∧ U64At W sa n xs ∧ n ≤ cap ∧ cap ≤ maxLen ∧ (n ≠ 0 → ∃ es sp, d = .slice es sp ∧ es.length = n) := by
  obtain ⟨a0, len, cap, rfl⟩ := okWide_slice ht hv
  obtain ⟨fuel, hf⟩ := h
  rcases open_ints ht he hc hf with ⟨hcs, hx⟩ | ⟨a, len', cap', zs, hcs, _, hl, hm, hz, hx, hcell, hwz⟩
  · simp [Value.cells] at hcs
    obtain ⟨rfl, rfl, rfl⟩ := hcs
    exact ⟨none, 0, 0, [], rfl, ⟨rfl, fun x hx => (by cases hx), fun hn => absurd rfl hn⟩, Nat.le_refl _, Nat.zero_le _, fun hn => absurd rfl hn⟩
  · simp [Value.cells] at hcs
    obtain ⟨rfl, rfl, rfl⟩ := hcs
    simp only [Prod.mk.injEq] at hx
    obtain ⟨rfl, rfl⟩ := hx
    simp only [if_true] at hz
    refine ⟨some a, len, cap, (zs.take len).map Int.toNat, rfl, ⟨by simp; omega, ?_, fun hn => ?_⟩, hl, hm, fun _ => ⟨_, _, rfl, by simp [lits]; omega⟩⟩
    · intro x hx
      simp only [List.mem_map] at hx
      obtain ⟨y, hy, rfl⟩ := hx
      have := u64_wf (hwz y (List.mem_of_mem_take hy))
      omega
    · obtain ⟨b, off, spot⟩ := a
      have hspot : spot = none := by simpa [Addr.add] using World.cell?_spot (hcell 0 (by omega))
      subst hspot
      refine ⟨b, off, rfl, hlt (.cell b off) (MemPlace.mem_row.2 ⟨0, by omega, by simp⟩), fun i hi => ?_⟩
      have hci := hcell i (by omega)
      have hmem : zs.getD i 0 ∈ zs := by
        have hi2 : i < zs.length := by omega
        rw [List.getD_eq_getElem?_getD, List.getElem?_eq_getElem hi2]
        exact List.getElem_mem hi2
      have hw := u64_wf (hwz _ hmem)
      have e : (((zs.take len).map Int.toNat).getD i 0 : Int) = zs.getD i 0 := by
        have hi2 : i < zs.length := by omega
        simp only [List.getD_eq_getElem?_getD, List.getElem?_map, List.getElem?_take, if_pos hi, List.getElem?_eq_getElem hi2, Option.map_some, Option.getD_some] at hw ⊢
        omega
      rw [e]
      rw [← add_plain]
      exact hci
end Go.Proofs.YtphdinjmkhefmaaGreatDoor

namespace Go.Proofs.YtphdinjmkhefmaaGreatDoor
open Go.RowKit Go.IntWalk

theorem U64At.below {W W' : World} {sa : Option Addr} {n : Nat} {xs : List Nat} (h : U64At W sa n xs) (hb : Below W.heap.size W W') : U64At W' sa n xs := by
  refine ⟨h.1, h.2.1, fun hn => ?_⟩
  obtain ⟨b, off, h1, h2, h3⟩ := h.2.2 hn
  exact ⟨b, off, h1, Nat.lt_of_lt_of_le h2 hb.size, fun i hi => by rw [hb.cell (p := ⟨b, off + i, none⟩) h2]; exact h3 i hi⟩
theorem take_next (xs : List Nat) (k : Nat) (h : k < xs.length) : xs.take (k + 1) = xs.take k ++ [xs.getD k 0] := by
  rw [List.take_add_one, List.getD_eq_getElem?_getD, List.getElem?_eq_getElem h]
  rfl
set_option maxHeartbeats 1000000 in
theorem Of64_any (sa : Option Addr) (sn sc : Nat) (xs : List Nat) (w : World) (hu : U64At w sa sn xs) (hn : sn ≤ 17592186043904) :
    Calls Tryz.prog 4 #[.slice sa sn sc] w fun r w' => ∃ v, r = .returned v ∧ Owns w' w.heap.size v xs ∧ (xs = [] → v = .slice none 0 0) ∧ Below w.heap.size w w' := by
  have HU := hid hu
  obtain ⟨i0, hi, hz0, hz1, hz2⟩ := info_parts info_f
  have h2 := f64from
  clear hu
  go_enter Tryz.func4, Tryz.ntmps4
  go_wp2_with fail
  go_loopw [3, 8] (fun u i wr => ∃ k : Nat, k ≤ sn ∧ i = .int .i64 k ∧ Hid (Owns wr w.heap.size u (xs.take k)) ∧ Hid (Below w.heap.size w wr) ∧ Hid (k = 0 → u = .slice none 0 0)) (fun _ i _ => sn - (intOf i).toNat)
  case atStart => exact ⟨0, Nat.zero_le _, rfl, World.ownsRow_nil _ _ _ _, Below.refl _ _, fun _ => rfl⟩
  case round =>
    obtain ⟨k, hk, rfl, HO, HB, HNIL⟩ := hrel
    by_cases hlt : k < sn
    · obtain ⟨b, off, rfl, hblt, hcell⟩ := HU.out.2.2 (by omega)
      have hck : wr.cell? ⟨b, off + k, none⟩ = some (.int .u64 ((xs.getD k 0 : Nat) : Int)) := by rw [HB.out.cell (p := ⟨b, off + k, none⟩) hblt]; exact hcell k hlt
      have HX : Hid (xs.take (k + 1) = xs.take k ++ [xs.getD k 0]) := take_next xs k (by rw [HU.out.1]; exact hlt)
      have HL : Hid ((xs.take k).length = k) := by show (xs.take k).length = k; rw [List.length_take, HU.out.1]; omega
      obtain ⟨x, hx⟩ : ∃ x, Hid (xs.getD k 0 = x) := ⟨_, rfl⟩
      rw [hx.out] at hck HX
      have hkI : (k : Int) < (sn : Int) := by omega
      have hk0 : (0 : Int) ≤ (k : Int) := by omega
      have hown := HO.out
      have hbw := HB.out.size
      unfold Owns at hown
      rw [HL.out] at hown
      clear hcell hblt
      go_wp2_with (first
        | (at_builtin; (refine wpList_append_own _ rfl _ _ 23 rfl w.heap.size 43 i0 (.float .f64 0) 1 8 Tryz.underlying23 hi hz0 hz1 hz2 rfl (by decide) _ _ _ rfl (hown.alloc _) ⟨wr.heap.size, 0, none⟩ 1 1 [.float .f64 x] rfl rfl ?c1 ?c2 ?c3 ?c4 ?c5 ?_)))
      case c1 =>
        intro j u hj
        match j, hj with
        | 0, hj => simp at hj; subst hj; simp [Addr.add]
      case c2 => intro u hu; simp at hu; subst hu; rfl
      case c3 => unfold maxLen; omega
      case c4 => omega
      case c5 => simp; omega
      intro v' w1 hown' hgrow _
      have HO2 : Hid (Owns w1 w.heap.size v' (xs.take (k + 1))) := by
        show w1.ownsRow _ _ _ _ _ _
        rw [HX.out, List.length_append, List.map_append, HL.out, List.map_take]
        exact hown'
      have HB2 : Hid (Below w.heap.size w w1) := (HB.out.alloc hbw _).grown hgrow (by simp; omega) (fun k hk => (World.ownsRow.lt hown k hk).1)
      clear hown' hgrow hown hck HO HB
      go_wp2
      refine ⟨⟨k + 1, by omega, by go_num, HO2, HB2, fun h => absurd h (by omega)⟩, ?_⟩
      simp [intOf]; omega
    · have hkn : k = sn := by omega
      subst hkn
      have HE : Hid (xs.take k = xs) := List.take_of_length_le (by rw [HU.out.1]; exact Nat.le_refl _)
      rw [HE.out] at HO
      go_wp2
      go_ret
      exact ⟨_, rfl, HO.out, fun h => HNIL.out (by rw [← HU.out.1, h]; rfl), HB.out⟩
end Go.Proofs.YtphdinjmkhefmaaGreatDoor
