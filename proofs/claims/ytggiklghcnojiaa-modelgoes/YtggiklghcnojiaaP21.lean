
/- matrix: what is finite, what a matrix is, whether it may be. -/
import Derived.Test.YtggiklghcnojiaaP18
import Derived.Test.YtggiklghcnojiaaP19
import Derived.Deep.OwnRows
import Derived.Deep.RegionHeld3
import Derived.Test.YtggiklghcnojiaaP4
namespace Go.Proofs.Ytggiklghcnojiaa
open Go.RowKit Go.IntWalk

/-- Whether all numbers of a list are finite. -/
def finM (zs : List Nat) : Bool := zs.all fun z => !(expOf z == 2047)
theorem finM_take (zs : List Nat) (k : Nat) (h : k < zs.length) : finM (zs.take (k + 1)) = (finM (zs.take k) && !(expOf (zs.getD k 0) == 2047)) := by
  unfold finM
  rw [List.take_succ_eq_append_getElem h, List.all_append]
  simp [List.getD, h]
theorem finM_false (zs : List Nat) (k : Nat) (h : finM (zs.take k) = false) : finM zs = false := by
  unfold finM at *
  rw [← List.take_append_drop k zs, List.all_append, h]; rfl
theorem finM_all (zs : List Nat) (k : Nat) (hk : zs.length ≤ k) (h : finM (zs.take k) = true) : finM zs = true := by
  rwa [List.take_of_length_le hk] at h
/-- Numbers in a list, of any place; nil or not. -/
def FlM (w : World) (sa : Option Addr) (n cap : Nat) (xs : List Nat) : Prop := xs.length = n ∧ (∀ x ∈ xs, x < 18446744073709551616) ∧ ((sa = none ∧ n = 0 ∧ cap = 0) ∨ ∃ b off, sa = some ⟨b, off, none⟩ ∧ b < w.heap.size ∧ n ≤ cap ∧ cap ≤ 9223372036854775807 ∧ ∀ j, j < n → w.cell? ⟨b, off + j, none⟩ = some (.float .f64 (xs.getD j 0)))
theorem FlM.below {w w' : World} {sa : Option Addr} {n cap : Nat} {xs : List Nat} (h : FlM w sa n cap xs) (hb : Below w.heap.size w w') : FlM w' sa n cap xs := by
  obtain ⟨h1, h2, h3 | ⟨b, off, h3, h4, h5, h6, h7⟩⟩ := h
  · exact ⟨h1, h2, Or.inl h3⟩
  · exact ⟨h1, h2, Or.inr ⟨b, off, h3, Nat.lt_of_lt_of_le h4 hb.size, h5, h6, fun j hj => by rw [hb.cell (p := ⟨b, off + j, none⟩) h4]; exact h7 j hj⟩⟩
theorem mem_getM (xs : List Nat) (j : Nat) (h : j < xs.length) : xs.getD j 0 ∈ xs := by rw [List.getD_eq_getElem?_getD, List.getElem?_eq_getElem h]; exact List.getElem_mem h
theorem FlM.at {w : World} {sa : Option Addr} {n cap : Nat} {xs : List Nat} (h : FlM w sa n cap xs) (hn : 0 < n) : ∃ b off, sa = some ⟨b, off, none⟩ ∧ b < w.heap.size ∧ (∀ j, j < n → w.cell? ⟨b, off + j, none⟩ = some (.float .f64 (xs.getD j 0))) ∧ ∀ j, j < n → xs.getD j 0 < 18446744073709551616 := by
  obtain ⟨h1, h2, ⟨_, h3, _⟩ | ⟨b, off, h3, h4, _, _, h7⟩⟩ := h
  · omega
  · exact ⟨b, off, h3, h4, h7, fun j hj => h2 _ (mem_getM xs j (by omega))⟩
set_option maxHeartbeats 1000000 in
theorem FinM_some (zs : List Nat) (b off cap : Nat) (w : World) (hb : b < w.heap.size) (hcell : ∀ i, i < zs.length → w.cell? ⟨b, off + i, none⟩ = some (.float .f64 (zs.getD i 0))) (hz : ∀ i, i < zs.length → zs.getD i 0 < 18446744073709551616) (hn : zs.length ≤ 140737488355328) :
    Calls Try.prog 22 #[.slice (some ⟨b, off, none⟩) zs.length cap] w fun r w' => r = .returned (.bool (finM zs)) ∧ Below w.heap.size w w' := by
  have HC := hid hcell
  have HZ := hid hz
  obtain ⟨n, hnl⟩ : ∃ n, Hid (zs.length = n) := ⟨_, rfl⟩
  rw [hnl.out] at hn ⊢
  clear hcell hz
  go_enter Try.func22, Try.ntmps22
  go_wp2
  go_loopw [10] (fun i wr => ∃ k : Nat, k ≤ n ∧ i = .int .i64 k ∧ Hid (finM (zs.take k) = true) ∧ Below w.heap.size w wr) (fun i _ => n - (intOf i).toNat)
  case atStart => exact ⟨0, Nat.zero_le _, rfl, rfl, Below.refl _ _⟩
  case round =>
    obtain ⟨k, hkn, rfl, HA, hbr⟩ := hrel
    by_cases hlt : k < n
    · have hck : wr.cell? ⟨b, off + k, none⟩ = some (.float .f64 (zs.getD k 0)) := by
        rw [hbr.cell (p := ⟨b, off + k, none⟩) hb]
        exact HC.out k (by rw [hnl.out]; exact hlt)
      have HZK : Hid (zs.getD k 0 < 18446744073709551616) := HZ.out k (by rw [hnl.out]; exact hlt)
      have HTK : Hid (finM (zs.take (k + 1)) = (finM (zs.take k) && !(expOf (zs.getD k 0) == 2047))) := finM_take zs k (by rw [hnl.out]; exact hlt)
      obtain ⟨z, hzz⟩ : ∃ z, Hid (zs.getD k 0 = z) := ⟨_, rfl⟩
      rw [hzz.out] at hck HZK HTK
      go_wp2_with (first | (go_at_call 36; refine (Split_any z _ HZK.out).mono ?_; rintro e w1 ⟨rfl, hb1⟩))
      · go_ret
        refine ⟨ret_bool (finM_false zs (k + 1) ?_).symm, bl_then hbr hb1⟩
        have he : expOf z = 2047 := by have : ((expOf z : Int) == 2047) = true := by assumption
                                       rw [beq_iff_eq] at this
                                       omega
        rw [HTK.out, he]; simp
      · have he : (expOf z == 2047) = false := by
          have : ((expOf z : Int) == 2047) = false := by assumption
          rw [beq_eq_false_iff_ne] at this ⊢
          omega
        go_roundw
        case rel => exact ⟨k + 1, by omega, by go_num, by show finM _ = true; rw [HTK.out, HA.out, he]; rfl, bl_then hbr hb1⟩
        case measure => simp [intOf]; omega
    · go_wp2
      go_ret
      exact ⟨ret_bool (finM_all zs k (by rw [hnl.out]; omega) HA.out).symm, hbr⟩
set_option maxHeartbeats 1000000 in
theorem FinM_nil (w : World) : Calls Try.prog 22 #[.slice none 0 0] w fun r w' => r = .returned (.bool true) ∧ Below w.heap.size w w' := by
  go_enter Try.func22, Try.ntmps22
  go_wp2
  go_loopw [10] (fun i wr => i = .int .i64 0 ∧ Below w.heap.size w wr) (fun _ _ => 0)
  case atStart => exact ⟨rfl, Below.refl _ _⟩
  case round =>
    obtain ⟨rfl, hb⟩ := hrel
    go_wp2
    go_ret
    exact ⟨rfl, hb⟩
/-- anatomy.Finite of any list. -/
theorem FinM_any (sa : Option Addr) (n cap : Nat) (xs : List Nat) (w : World) (h : FlM w sa n cap xs) (hn : n ≤ 17592186043904) :
    Calls Try.prog 22 #[.slice sa n cap] w fun r w' => r = .returned (.bool (finM xs)) ∧ Below w.heap.size w w' := by
  obtain ⟨rfl, h2, ⟨rfl, h3, rfl⟩ | ⟨b, off, rfl, h4, _, _, h7⟩⟩ := h
  · have hx : xs = [] := List.length_eq_zero_iff.1 h3
    subst hx
    exact FinM_nil w
  · exact FinM_some xs b off cap w h4 h7 (fun i hi => h2 _ (mem_getM xs i hi)) (by omega)
/-- A matrix as a value; a variable that holds one. -/
def MV (r c : Int) (sa : Option Addr) (n cap : Nat) : Value := .agg #[.int .i64 r, .int .i64 c, .slice sa n cap]
def MBox (r c : Int) (sa : Option Addr) (n cap : Nat) : Obj := .cells #[.int .i64 r, .int .i64 c, .slice sa n cap] 34
theorem mcells_of {w : World} {b : Nat} {r c : Int} {sa : Option Addr} {n cap : Nat} (h : w.heap[b]? = some (MBox r c sa n cap)) : w.cell? ⟨b, 0, none⟩ = some (.int .i64 r) ∧ w.cell? ⟨b, 1, none⟩ = some (.int .i64 c) ∧ w.cell? ⟨b, 2, none⟩ = some (.slice sa n cap) := by
  unfold MBox at h
  refine ⟨?_, ?_, ?_⟩ <;> simp [World.cell?, h]
def sideB (n : Int) : Bool := decide (0 ≤ n) && decide (n ≤ 12)
end Go.Proofs.Ytggiklghcnojiaa

namespace Go.Proofs.Ytggiklghcnojiaa
open Go.RowKit Go.IntWalk
theorem wrapM (x : Nat) (h : x ≤ 1000000) : IntKind.i64.wrap (x : Int) = (x : Int) := IntWalk.i64_in _ (by omega)
theorem nblkM (w : World) (o : Obj) : (w.alloc o).heap[w.heap.size]? = some o := (MapKept.heap_alloc w o).1
theorem info_fM : (Try.prog.info? 38).map (fun i => (i.zero, i.size, i.bytes)) = some (some (.float .f64 0), 1, 8) := by kernel_rfl
theorem fstoreM (W : World) (a : Addr) (x : Nat) : (store a (.float .f64 x)).run Try.prog W = stored Try.prog W a (.float .f64 x) .plain := run_store _ _ _ _ _ rfl
/-- What is wrong with a matrix. -/
def chkM (r c : Int) (n : Nat) (xs : List Nat) : Int := if sideB r = false ∨ sideB c = false then 1 else if (n : Int) ≠ r * c then 3 else if finM xs = false then 4 else 0
end Go.Proofs.Ytggiklghcnojiaa

namespace Go.Proofs.Ytggiklghcnojiaa
open Go.RowKit Go.IntWalk

/-- What fill hands back: a new row, each place as it was told. -/
def FillR (P : Nat → Nat → Nat → Prop) (r c N B : Nat) (e : Ending) (w' : World) : Prop := ∃ (g : Nat) (o : Nat → Nat), e = .returned (MV r c (some ⟨g, 0, none⟩) N N) ∧ B ≤ g ∧ w'.rowIs g 38 N (fun k => .float .f64 (o k)) ∧ ∀ i j, i < r → j < c → P i j (o (i * c + j)) ∧ o (i * c + j) < 18446744073709551616
theorem place_lt {r c i j : Nat} (hi : i < r) (hj : j < c) : i * c + j < r * c := by
  have h : (i + 1) * c ≤ r * c := Nat.mul_le_mul_right c hi
  rw [Nat.add_mul, Nat.one_mul] at h
  omega
theorem place_ne {c i j i2 j2 : Nat} (hj : j < c) (hj2 : j2 < c) (h : i * c + j = i2 * c + j2) : i = i2 ∧ j = j2 := by
  have e : i = i2 := by
    have h1 : (i * c + j) / c = i := by rw [Nat.mul_comm, Nat.mul_add_div (by omega), Nat.div_eq_of_lt hj]; rfl
    have h2 : (i2 * c + j2) / c = i2 := by rw [Nat.mul_comm, Nat.mul_add_div (by omega), Nat.div_eq_of_lt hj2]; rfl
    rw [← h1, ← h2, h]
  subst e
  exact ⟨rfl, by omega⟩
theorem set_keepM {W : World} {a b o : Nat} (hab : a ≠ b) (x : Value) : (W.setCell ⟨b, o, none⟩ x).heap[a]? = W.heap[a]? := by
  simp [World.setCell, Array.getElem?_modify, Ne.symm hab]
/-- Two variables as they were laid. -/
def FrF (w W : World) (mb rb : Nat) (om or : Obj) : Prop := Below w.heap.size w W ∧ W.heap[mb]? = some om ∧ W.heap[rb]? = some or
theorem FrF.drew {w W : World} {mb rb : Nat} {om or : Obj} (h : FrF w W mb rb om or) : FrF w W.drew mb rb om or := ⟨h.1.drew, h.2.1, h.2.2⟩
theorem FrF.call {w W W' : World} {mb rb : Nat} {om or : Obj} (h : FrF w W mb rb om or) (hb : Below W.heap.size W W') : FrF w W' mb rb om or :=
  ⟨h.1.trans (hb.mono h.1.size), (hb.block _ (Array.getElem?_eq_some_iff.1 h.2.1).1).trans h.2.1, (hb.block _ (Array.getElem?_eq_some_iff.1 h.2.2).1).trans h.2.2⟩
theorem FrF.set {w W : World} {mb rb g k : Nat} {om or : Obj} (h : FrF w W mb rb om or) (h1 : mb ≠ g) (h2 : rb ≠ g) (hg : w.heap.size ≤ g) (x : Value) : FrF w (W.setCell ⟨g, k, none⟩ x) mb rb om or :=
  ⟨h.1.setCell (p := ⟨g, k, none⟩) hg _, (set_keepM h1 x).trans h.2.1, (set_keepM h2 x).trans h.2.2⟩
theorem mset {W : World} {b : Nat} {r c r2 c2 : Int} {sa sa2 : Option Addr} {n n2 cap cap2 : Nat} (h : W.heap[b]? = some (MBox r c sa n cap)) : (((W.setCell ⟨b, 0, none⟩ (.int .i64 r2)).setCell ⟨b, 1, none⟩ (.int .i64 c2)).setCell ⟨b, 2, none⟩ (.slice sa2 n2 cap2)).heap[b]? = some (MBox r2 c2 sa2 n2 cap2) := by
  unfold MBox at h ⊢
  simp [World.setCell, Array.getElem?_modify, h]
end Go.Proofs.Ytggiklghcnojiaa

namespace Go.Proofs.Ytggiklghcnojiaa
open Go.RowKit Go.IntWalk

/-- One place and the one mirrored. -/
def MirP (P : Nat → Nat → Nat → Prop) (n : Nat) (o : Nat → Nat) (a b : Nat) : Prop := (P a b (o (a * n + b)) ∧ o (a * n + b) < 18446744073709551616) ∧ o (b * n + a) = o (a * n + b)
def MirR (P : Nat → Nat → Nat → Prop) (n N B : Nat) (e : Ending) (w' : World) : Prop := ∃ (g : Nat) (o : Nat → Nat), e = .returned (MV n n (some ⟨g, 0, none⟩) N N) ∧ B ≤ g ∧ w'.rowIs g 38 N (fun k => .float .f64 (o k)) ∧ ∀ i j, i < n → j ≤ i → MirP P n o i j
theorem mir_step {P : Nat → Nat → Nat → Prop} {n i j k l x : Nat} {o2 : Nat → Nat} (hj1 : j < i + 1) (hi1 : i < n) (hk : i * n + j = k) (hl : j * n + i = l) (hX : ∀ {y : Nat}, y = x → P i j y ∧ y < 18446744073709551616) {a b : Nat} (hab : a < i ∨ (a = i ∧ b < j + 1)) (hb : b ≤ a) (ho : ∀ a b, (a < i ∨ (a = i ∧ b < j)) → b ≤ a → MirP P n o2 a b) :
    MirP P n (fun t => if t = l then x else if t = k then x else o2 t) a b := by
  have ha : a < n := by omega
  have hbn : b < n := by omega
  have hjn : j < n := by omega
  by_cases h : a = i ∧ b = j
  · obtain ⟨rfl, rfl⟩ := h
    have e1 : (if a * n + b = l then x else if a * n + b = k then x else o2 (a * n + b)) = x := by
      by_cases c : a * n + b = l
      · rw [if_pos c]
      · rw [if_neg c, if_pos hk]
    have e2 : (if b * n + a = l then x else if b * n + a = k then x else o2 (b * n + a)) = x := by rw [if_pos hl]
    exact ⟨hX e1, by dsimp only; rw [e1, e2]⟩
  · have n1 : a * n + b ≠ k := fun c => h (place_ne hbn hjn (c.trans hk.symm))
    have n2 : a * n + b ≠ l := fun c => by
      have := place_ne hbn hi1 (c.trans hl.symm)
      exact h ⟨by omega, by omega⟩
    have n3 : b * n + a ≠ k := fun c => by
      have := place_ne ha hjn (c.trans hk.symm)
      exact h ⟨by omega, by omega⟩
    have n4 : b * n + a ≠ l := fun c => by
      have := place_ne ha hi1 (c.trans hl.symm)
      exact h ⟨by omega, by omega⟩
    have e1 : (if a * n + b = l then x else if a * n + b = k then x else o2 (a * n + b)) = o2 (a * n + b) := by rw [if_neg n2, if_neg n1]
    have e2 : (if b * n + a = l then x else if b * n + a = k then x else o2 (b * n + a)) = o2 (b * n + a) := by rw [if_neg n4, if_neg n3]
    obtain ⟨q1, q2⟩ := ho a b (by omega) hb
    exact ⟨by dsimp only; rw [e1]; exact q1, by dsimp only; rw [e1, e2]; exact q2⟩
end Go.Proofs.Ytggiklghcnojiaa

namespace Go.Proofs.Ytggiklghcnojiaa
open Go.RowKit Go.IntWalk

/-- A dot product in order, of canonical numbers. -/
def dotM (f g : Nat → Nat) : Nat → Nat
  | 0 => 0
  | k + 1 => caf .add (dotM f g k) (caf .mul (canonOf (f k)) (canonOf (g k)))
theorem dotM_congr {f g f2 g2 : Nat → Nat} (n : Nat) (h1 : ∀ k, k < n → f k = f2 k) (h2 : ∀ k, k < n → g k = g2 k) : dotM f g n = dotM f2 g2 n := by
  induction n with
  | zero => rfl
  | succ n ih => rw [dotM, dotM, ih (fun k hk => h1 k (by omega)) (fun k hk => h2 k (by omega)), h1 n (by omega), h2 n (by omega)]
end Go.Proofs.Ytggiklghcnojiaa

namespace Go.Proofs.Ytggiklghcnojiaa
open Go.RowKit Go.IntWalk

/-- Numbers in a list, of any place, told by a function; nil or not. -/
def FnM (w : World) (sa : Option Addr) (n cap : Nat) (f : Nat → Nat) : Prop := (sa = none ∧ n = 0 ∧ cap = 0) ∨ ∃ b off, sa = some ⟨b, off, none⟩ ∧ b < w.heap.size ∧ n ≤ cap ∧ cap ≤ 9223372036854775807 ∧ ∀ j, j < n → w.cell? ⟨b, off + j, none⟩ = some (.float .f64 (f j)) ∧ f j < 18446744073709551616
theorem FnM.below {w w' : World} {sa : Option Addr} {n cap : Nat} {f : Nat → Nat} (h : FnM w sa n cap f) (hb : Below w.heap.size w w') : FnM w' sa n cap f := by
  rcases h with h | ⟨b, off, h3, h4, h5, h6, h7⟩
  · exact Or.inl h
  · exact Or.inr ⟨b, off, h3, Nat.lt_of_lt_of_le h4 hb.size, h5, h6, fun j hj => ⟨by rw [hb.cell (p := ⟨b, off + j, none⟩) h4]; exact (h7 j hj).1, (h7 j hj).2⟩⟩
theorem FlM.fn {w : World} {sa : Option Addr} {n cap : Nat} {xs : List Nat} (h : FlM w sa n cap xs) : FnM w sa n cap (fun j => xs.getD j 0) := by
  obtain ⟨h1, h2, h3 | ⟨b, off, h3, h4, h5, h6, h7⟩⟩ := h
  · exact Or.inl h3
  · exact Or.inr ⟨b, off, h3, h4, h5, h6, fun j hj => ⟨h7 j hj, h2 _ (mem_getM xs j (by omega))⟩⟩
theorem FnM.fl {w : World} {sa : Option Addr} {n cap : Nat} {f : Nat → Nat} (h : FnM w sa n cap f) : FlM w sa n cap ((List.range n).map f) := by
  refine ⟨by simp, fun x hx => ?_, ?_⟩
  · obtain ⟨j, hj, rfl⟩ := List.mem_map.1 hx
    rw [List.mem_range] at hj
    rcases h with ⟨_, h2, _⟩ | ⟨b, off, _, _, _, _, h7⟩
    · omega
    · exact (h7 j hj).2
  · rcases h with h | ⟨b, off, h3, h4, h5, h6, h7⟩
    · exact Or.inl h
    · refine Or.inr ⟨b, off, h3, h4, h5, h6, fun j hj => ?_⟩
      rw [(h7 j hj).1, List.getD_eq_getElem?_getD, List.getElem?_map, List.getElem?_range hj]
      rfl
theorem FnM.congr {w : World} {sa : Option Addr} {n cap : Nat} {f g : Nat → Nat} (h : FnM w sa n cap f) (hg : ∀ j, j < n → f j = g j) : FnM w sa n cap g := by
  rcases h with h | ⟨b, off, h3, h4, h5, h6, h7⟩
  · exact Or.inl h
  · exact Or.inr ⟨b, off, h3, h4, h5, h6, fun j hj => by rw [← hg j hj]; exact h7 j hj⟩
theorem fn_lt {w : World} {sa : Option Addr} {n cap : Nat} {f : Nat → Nat} (h : FnM w sa n cap f) (j : Nat) (hj : j < n) : f j < 18446744073709551616 := by
  rcases h with ⟨_, h2, _⟩ | ⟨_, _, _, _, _, _, h7⟩
  · omega
  · exact (h7 j hj).2
end Go.Proofs.Ytggiklghcnojiaa
