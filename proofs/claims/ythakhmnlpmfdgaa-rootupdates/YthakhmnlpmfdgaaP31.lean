
/- Symmetric, Lower, Trace, Mirror of any matrix, by matrix and by the document. (Written by mkncd.py.) -/
import Derived.Test.YthakhmnlpmfdgaaP30
import Derived.Test.YthakhmnlpmfdgaaP27
import Derived.Test.YthakhmnlpmfdgaaP22
namespace Go.Proofs.Ythakhmnlpmfdgaa
open Go.RowKit Go.IntWalk

set_option maxRecDepth 4000 in
theorem Lower_non (r c : Int) (sa : Option Addr) (n ka : Nat) (w : World) (E : Int) (hE : E ≠ 0) (hS : ∀ W, Below w.heap.size w W → Calls Try.prog 70 #[.agg #[.int .i64 r, .int .i64 c, .slice sa n ka]] W fun e w' => e = .returned (.int .i64 E) ∧ Below W.heap.size W w') :
    Calls Try.prog 48 #[.agg #[.int .i64 r, .int .i64 c, .slice sa n ka]] w fun e w' => e = .returned (.bool false) ∧ Below w.heap.size w w' := by
  have HB0 : Hid (Below w.heap.size w (w.alloc (MBox r c sa n ka))) := (Below.refl _ _).alloc (Nat.le_refl _) _
  have HX0 : Hid ((w.alloc (MBox r c sa n ka)).heap[w.heap.size]? = some (MBox r c sa n ka)) := nblkM _ _
  have hne : (E != 0) = true := by simpa using hE
  have HS := hid hS
  obtain ⟨V, hV⟩ : ∃ V, Hid (w.alloc (MBox r c sa n ka) = V) := ⟨_, rfl⟩
  rw [hV.out] at HB0 HX0
  have hV' := hV.out
  unfold MBox at hV'
  obtain ⟨p0, hp0⟩ : ∃ t, Hid (w.heap.size = t) := ⟨_, rfl⟩
  rw [hp0.out] at HX0
  have hp0' := hp0.out
  obtain ⟨x0, x1, x2⟩ := mcells_of HX0.out
  clear hS hE
  go_enter Try.func48, Try.ntmps48
  go_wp2_with fail
  refine (HS.out _ HB0.out).mono ?_
  rintro e w1 ⟨rfl, hb1⟩
  have HB1 := hid (HB0.out.trans (hb1.mono HB0.out.size))
  have HX1 := hid (blkM HX0.out hb1)
  obtain ⟨x0, x1, x2⟩ := mcells_of HX1.out
  clear hb1
  go_wp2_with fail
  go_ret
  exact ⟨rfl, by first | exact HB1.out | (rw [← hp0.out]; exact HB1.out)⟩
/-- What checkSquare tells of any matrix. -/
def sqE (rx cx : Int) (n : Nat) (xs : List Nat) : Int := first2 (chkM rx cx n xs) (if rx = cx then 0 else 3)
theorem square_tot (rx cx : Int) (sa : Option Addr) (n ka : Nat) (xs : List Nat) (w : World) (ha : FlM w sa n ka xs) (hn : n ≤ 17592186043904) :
    Calls Try.prog 70 #[.agg #[.int .i64 rx, .int .i64 cx, .slice sa n ka]] w fun e w' => e = .returned (.int .i64 (sqE rx cx n xs)) ∧ Below w.heap.size w w' := by
  by_cases h : chkM rx cx n xs = 0
  · obtain ⟨r, c, rfl, rfl, hga⟩ := gd_of ha h
    have : sqE (r : Int) c n xs = if r = c then 0 else 3 := by
      unfold sqE first2
      rw [if_pos h]
      by_cases q : r = c
      · rw [if_pos q, if_pos (by omega)]
      · rw [if_neg q, if_neg (by omega)]
    rw [this]
    exact square_good r c n sa ka _ w hga
  · rw [show sqE rx cx n xs = chkM rx cx n xs from by unfold sqE first2; rw [if_neg h]]
    exact square_bad rx cx n sa ka xs w ha hn h
theorem sq_zero {rx cx : Int} {n : Nat} {xs : List Nat} (h : sqE rx cx n xs = 0) : chkM rx cx n xs = 0 ∧ rx = cx := by
  obtain ⟨h1, h2⟩ := first2_zero h
  by_cases q : rx = cx
  · exact ⟨h1, q⟩
  · rw [if_neg q] at h2; cases h2
theorem sq_shape {rx cx : Int} {n : Nat} {xs : List Nat} (h : chkM rx cx n xs = 0) (hs : ¬ rx = cx) : sqE rx cx n xs = 3 := by unfold sqE first2; rw [if_pos h, if_neg hs]
theorem sq_bad {rx cx : Int} {n : Nat} {xs : List Nat} (h : ¬ chkM rx cx n xs = 0) : sqE rx cx n xs = chkM rx cx n xs := by unfold sqE first2; rw [if_neg h]
def symT (rx cx : Int) (n : Nat) (xs : List Nat) : Bool := decide (sqE rx cx n xs = 0) && symB rx.toNat rx.toNat (fun j => xs.getD j 0)
def lowT (rx cx : Int) (n : Nat) (xs : List Nat) : Bool := decide (sqE rx cx n xs = 0) && lowB rx.toNat (fun j => xs.getD j 0)
theorem Lower_tot (rx cx : Int) (sa : Option Addr) (n ka : Nat) (xs : List Nat) (w : World) (ha : FlM w sa n ka xs) (hn : n ≤ 17592186043904) :
    Calls Try.prog 48 #[.agg #[.int .i64 rx, .int .i64 cx, .slice sa n ka]] w fun e w' => e = .returned (.bool (lowT rx cx n xs)) ∧ Below w.heap.size w w' := by
  by_cases h : sqE rx cx n xs = 0
  · obtain ⟨h1, h2⟩ := sq_zero h
    subst h2
    obtain ⟨r, c, rfl, hc, hga⟩ := gd_of ha h1
    have hc' : r = c := by omega
    subst hc'
    unfold lowT
    rw [decide_eq_true h, Bool.true_and]
    exact Lower_ok r n sa ka _ w hga
  · rw [show lowT rx cx n xs = false from by unfold lowT; rw [decide_eq_false h, Bool.false_and]]
    exact Lower_non rx cx sa n ka w _ h (fun W hW => square_tot rx cx sa n ka xs W (ha.below hW) hn)
/-- Trace's number and error. -/
def trW (rx : Int) (xs : List Nat) : Nat := trM (fun j => xs.getD j 0) rx.toNat rx.toNat
def trT (rx cx : Int) (n : Nat) (xs : List Nat) : Int := if sqE rx cx n xs = 0 then (if finB (trW rx xs) = true then 0 else 5) else sqE rx cx n xs
def trD (rx cx : Int) (n : Nat) (xs : List Nat) : Nat := if trT rx cx n xs = 0 then trW rx xs else 0
theorem tr_some {rx cx : Int} {n : Nat} {xs : List Nat} (h : sqE rx cx n xs = 0) : trT rx cx n xs = (if finB (trW rx xs) = true then 0 else 5) ∧ trD rx cx n xs = (if finB (trW rx xs) = true then trW rx xs else 0) := by
  have h1 : trT rx cx n xs = (if finB (trW rx xs) = true then 0 else 5) := by unfold trT; rw [if_pos h]
  refine ⟨h1, ?_⟩
  unfold trD
  rw [h1]
  cases finB (trW rx xs) <;> rfl
theorem tr_no {rx cx : Int} {n : Nat} {xs : List Nat} (h : ¬ sqE rx cx n xs = 0) : trT rx cx n xs = sqE rx cx n xs ∧ trD rx cx n xs = 0 := by
  have h1 : trT rx cx n xs = sqE rx cx n xs := by unfold trT; rw [if_neg h]
  exact ⟨h1, by unfold trD; rw [h1, if_neg h]⟩
/-- The numbers of what is mirrored. -/
def mirV (xs : List Nat) (c : Nat) (i j : Nat) : Nat := if j ≤ i then canonOf (xs.getD (i * c + j) 0) else canonOf (xs.getD (j * c + i) 0)
theorem mir_res {c g : Nat} {o : Nat → Nat} {xs : List Nat} {W : World} (hg : ∀ k, k < c * c → xs.getD k 0 % 9223372036854775808 < 9218868437227405312) (hf : FnM W (some ⟨g, 0, none⟩) (c * c) (c * c) o) (hs : ∀ i j, i < c → j < c → o (i * c + j) = o (j * c + i)) (hv : ∀ i j, i < c → j ≤ i → o (i * c + j) = xs.getD (i * c + j) 0) : ResM 0 c c (mirV xs c) W c c (some ⟨g, 0, none⟩) (c * c) (c * c) := by
  have key : ∀ i j, i < c → j < c → o (i * c + j) = if j ≤ i then xs.getD (i * c + j) 0 else xs.getD (j * c + i) 0 := fun i j hi hj => by
    by_cases h : j ≤ i
    · rw [if_pos h]; exact hv i j hi h
    · rw [if_neg h, hs i j hi hj]; exact hv j i hj (by omega)
  refine Or.inl ⟨rfl, rfl, rfl, rfl, rfl, g, o, rfl, hf, fun i j hi hj => ?_, ?_⟩
  · rw [key i j hi hj]
    unfold mirV
    by_cases h : j ≤ i
    · rw [if_pos h, if_pos h]
    · rw [if_neg h, if_neg h]
  · rw [finF_iff]
    intro k hk
    obtain ⟨q1, q2, q3⟩ := split_k hk
    have hfin : o k % 9223372036854775808 < 9218868437227405312 := by
      rw [← q3, key _ _ q1 q2]
      by_cases h : k % c ≤ k / c
      · rw [if_pos h]; exact hg _ (place_lt q1 q2)
      · rw [if_neg h]; exact hg _ (place_lt q2 q1)
    unfold expOf
    rw [canq_fin hfin]
    exact expq_fin hfin
end Go.Proofs.Ythakhmnlpmfdgaa

namespace Go.Proofs.Ythakhmnlpmfdgaa
open Go.RowKit Go.IntWalk

end Go.Proofs.Ythakhmnlpmfdgaa

namespace Go.Proofs.Ythakhmnlpmfdgaa
open Go.RowKit Go.IntWalk

/-- What is wrong with a block. -/
def blkE (E r c i j a b : Int) : Int := if E ≠ 0 then E else if 0 ≤ i ∧ 0 ≤ j ∧ 0 ≤ a ∧ 0 ≤ b ∧ i + a ≤ r ∧ j + b ≤ c then 0 else 1
end Go.Proofs.Ythakhmnlpmfdgaa

namespace Go.Proofs.Ythakhmnlpmfdgaa
open Go.RowKit Go.IntWalk

end Go.Proofs.Ythakhmnlpmfdgaa

namespace Go.Proofs.Ythakhmnlpmfdgaa
open Go.RowKit Go.IntWalk

end Go.Proofs.Ythakhmnlpmfdgaa

namespace Go.Proofs.Ythakhmnlpmfdgaa
open Go.RowKit Go.IntWalk

end Go.Proofs.Ythakhmnlpmfdgaa

namespace Go.Proofs.Ythakhmnlpmfdgaa
open Go.RowKit Go.IntWalk

end Go.Proofs.Ythakhmnlpmfdgaa

namespace Go.Proofs.Ythakhmnlpmfdgaa
open Go.RowKit Go.IntWalk

/-- The numbers of a turned matrix, of a block, of two side by side. -/
def trnV (xs : List Nat) (c : Nat) (i j : Nat) : Nat := canonOf (xs.getD (j * c + i) 0)
def blkV (xs : List Nat) (c p q : Nat) (u v : Nat) : Nat := canonOf (xs.getD ((p + u) * c + (q + v)) 0)
def bsdV (xs ys : List Nat) (c c2 : Nat) (u v : Nat) : Nat := if v < c then canonOf (xs.getD (u * c + v) 0) else canonOf (ys.getD (u * c2 + (v - c)) 0)
theorem res_fin {r c g : Nat} {o : Nat → Nat} {v : Nat → Nat → Nat} {W : World} (hf : FnM W (some ⟨g, 0, none⟩) (r * c) (r * c) o) (hv : ∀ i j, i < r → j < c → canonOf (o (i * c + j)) = v i j) (hfin : ∀ i j, i < r → j < c → o (i * c + j) % 9223372036854775808 < 9218868437227405312) : ResM 0 r c v W r c (some ⟨g, 0, none⟩) (r * c) (r * c) := by
  refine Or.inl ⟨rfl, rfl, rfl, rfl, rfl, g, o, rfl, hf, hv, ?_⟩
  rw [finF_iff]
  intro k hk
  obtain ⟨q1, q2, q3⟩ := split_k hk
  have h := hfin _ _ q1 q2
  rw [q3] at h
  unfold expOf
  rw [canq_fin h]
  exact expq_fin h
theorem Trn_tot (rx cx : Int) (sa : Option Addr) (n ka : Nat) (xs : List Nat) (w : World) (ha : FlM w sa n ka xs) (hn : n ≤ 17592186043904) :
    Calls Try.prog 52 #[.agg #[.int .i64 rx, .int .i64 cx, .slice sa n ka]] w fun e w' => (∃ X0 X1 X2 X3 X4, e = .returned (.tuple #[.agg #[.int .i64 X0, .int .i64 X1, .slice X2 X3 X4], .int .i64 (chkM rx cx n xs)]) ∧ ResM (chkM rx cx n xs) cx.toNat rx.toNat (trnV xs cx.toNat) w' X0 X1 X2 X3 X4) ∧ Below w.heap.size w w' := by
  by_cases h : chkM rx cx n xs = 0
  · rw [h]
    obtain ⟨r, c, rfl, rfl, hga⟩ := gd_of ha h
    rw [Int.toNat_natCast r, Int.toNat_natCast c]
    refine (Trn_ok r c n sa ka _ w hga).mono ?_
    rintro e w' ⟨⟨g, o, rfl, hf, hv⟩, hbb⟩
    exact ⟨⟨_, _, _, _, _, rfl, res_fin hf (fun i j hi hj => by rw [hv i j hi hj]; rfl) (fun i j hi hj => by rw [hv i j hi hj]; exact (gd_fin hga _ (place_lt hj hi)).2)⟩, hbb⟩
  · refine (Trn_bad rx cx n sa ka xs w ha hn h).mono ?_
    rintro e w' ⟨rfl, hbb⟩
    obtain ⟨X0, X1, X2, X3, X4, e1, e2⟩ := res_non cx.toNat rx.toNat (trnV xs cx.toNat) _ w' h
    exact ⟨⟨X0, X1, X2, X3, X4, by rw [e1], e2⟩, hbb⟩
theorem blk_zero {E r c i j a b : Int} (h : blkE E r c i j a b = 0) : E = 0 ∧ 0 ≤ i ∧ 0 ≤ j ∧ 0 ≤ a ∧ 0 ≤ b ∧ i + a ≤ r ∧ j + b ≤ c := by
  unfold blkE at h
  by_cases q : E = 0
  · rw [if_neg (fun z => z q)] at h
    by_cases p : 0 ≤ i ∧ 0 ≤ j ∧ 0 ≤ a ∧ 0 ≤ b ∧ i + a ≤ r ∧ j + b ≤ c
    · exact ⟨q, p⟩
    · rw [if_neg p] at h; cases h
  · rw [if_pos q] at h; exact absurd h q
end Go.Proofs.Ythakhmnlpmfdgaa

namespace Go.Proofs.Ythakhmnlpmfdgaa
open Go.RowKit Go.IntWalk

/-- A root, and a variable with one. -/
def RV (xa : Option Addr) (k kx : Nat) (r c : Int) (sa : Option Addr) (n ka : Nat) : Value := .agg #[.slice xa k kx, .int .i64 r, .int .i64 c, .slice sa n ka]
def RBox (xa : Option Addr) (k kx : Nat) (r c : Int) (sa : Option Addr) (n ka : Nat) : Obj := .cells #[.slice xa k kx, .int .i64 r, .int .i64 c, .slice sa n ka] 36
theorem rcells_of {w : World} {b : Nat} {xa : Option Addr} {k kx : Nat} {r c : Int} {sa : Option Addr} {n ka : Nat} (h : w.heap[b]? = some (RBox xa k kx r c sa n ka)) : w.cell? ⟨b, 0, none⟩ = some (.slice xa k kx) ∧ w.cell? ⟨b, 1, none⟩ = some (.int .i64 r) ∧ w.cell? ⟨b, 2, none⟩ = some (.int .i64 c) ∧ w.cell? ⟨b, 3, none⟩ = some (.slice sa n ka) := by
  unfold RBox at h
  refine ⟨?_, ?_, ?_, ?_⟩ <;> simp [World.cell?, h]
theorem areFin_any (sa : Option Addr) (n cap : Nat) (xs : List Nat) (w : World) (h : FlM w sa n cap xs) (hn : n ≤ 17592186043904) : Calls Try.prog 51 #[.slice sa n cap] w fun e w' => e = .returned (.bool (finM xs)) ∧ Below w.heap.size w w' := by
  have HF := hid (FinM_any sa n cap xs w h hn)
  clear h hn
  go_enter Try.func51, Try.ntmps51
  go_wp2_with fail
  refine HF.out.mono ?_
  rintro e w1 ⟨rfl, hb⟩
  have HB := hid hb
  clear hb
  go_wp2_with fail
  go_ret
  exact ⟨rfl, HB.out⟩
theorem one_fl {w : World} {b x : Nat} (hx : x < 18446744073709551616) (h : w.cell? ⟨b, 0, none⟩ = some (.float .f64 x)) (hb : b < w.heap.size) : FlM w (some ⟨b, 0, none⟩) 1 1 [x] := by
  refine ⟨rfl, fun y hy => ?_, Or.inr ⟨b, 0, rfl, hb, Nat.le_refl _, by decide, fun j hj => ?_⟩⟩
  · rcases List.mem_cons.1 hy with rfl | hy
    · exact hx
    · exact absurd hy List.not_mem_nil
  · obtain rfl : j = 0 := by omega
    exact h
def tallE (r c : Int) (n : Nat) (xs : List Nat) (d : Int) : Int := if chkM r c n xs = 0 then (if r = d then 0 else 3) else chkM r c n xs
def sqrE (r c : Int) (n : Nat) (xs : List Nat) (d : Int) : Int := if tallE r c n xs d = 0 then (if c = d then 0 else 3) else tallE r c n xs d
def lsE (n : Nat) (xs : List Nat) (d : Int) : Int := if (n : Int) = d then (if finM xs = true then 0 else 4) else 3
set_option maxRecDepth 4000 in
set_option maxHeartbeats 1000000 in
theorem tall_any (r c : Int) (sa : Option Addr) (n ka : Nat) (xs : List Nat) (d : Int) (w : World) (ha : FlM w sa n ka xs) (hn : n ≤ 17592186043904) :
    Calls Try.prog 68 #[MV r c sa n ka, .int .i64 d] w fun e w' => e = .returned (.int .i64 (tallE r c n xs d)) ∧ Below w.heap.size w w' := by
  unfold tallE
  have HA0 : Hid ((w.alloc (MBox r c sa n ka)).heap[w.heap.size]? = some (MBox r c sa n ka)) := nblkM _ _
  have HB : Hid (Below w.heap.size w (w.alloc (MBox r c sa n ka))) := (Below.refl _ _).alloc (Nat.le_refl _) _
  have HCB := hid (fun W (hW : Below w.heap.size w W) => Check_any r c sa n ka xs W (ha.below hW) hn)
  obtain ⟨E, hEE⟩ : ∃ E, Hid (chkM r c n xs = E) := ⟨_, rfl⟩
  rw [hEE.out] at HCB
  rw [hEE.out]
  obtain ⟨V, hV⟩ : ∃ V, Hid (w.alloc (MBox r c sa n ka) = V) := ⟨_, rfl⟩
  rw [hV.out] at HA0 HB
  have hV' := hV.out
  obtain ⟨x0, x1, x2⟩ := mcells_of HA0.out
  unfold MBox at hV'
  unfold MV at HCB ⊢
  clear ha hn
  by_cases h1 : E = 0
  · rw [if_pos h1]
    rw [h1] at HCB
    clear h1 hEE
    by_cases h2 : r = d
    · rw [if_pos h2]
      have d1 : (r != d) = false := by simpa using h2
      clear h2
      go_enter Try.func68, Try.ntmps68
      go_wp2_with fail
      refine (HCB.out _ HB.out).mono ?_
      rintro e w1 ⟨rfl, hb1⟩
      have HB1 := hid (HB.out.trans (hb1.mono HB.out.size))
      obtain ⟨x0, x1, x2⟩ := mcells_of (blkM HA0.out hb1)
      clear hb1
      go_wp2_with fail
      go_ret
      exact ⟨rfl, HB1.out⟩
    · rw [if_neg h2]
      have d1 : (r != d) = true := by simpa using h2
      clear h2
      go_enter Try.func68, Try.ntmps68
      go_wp2_with fail
      refine (HCB.out _ HB.out).mono ?_
      rintro e w1 ⟨rfl, hb1⟩
      have HB1 := hid (HB.out.trans (hb1.mono HB.out.size))
      obtain ⟨x0, x1, x2⟩ := mcells_of (blkM HA0.out hb1)
      clear hb1
      go_wp2_with fail
      go_ret
      exact ⟨rfl, HB1.out⟩
  · rw [if_neg h1]
    have d1 : (E != 0) = true := by simpa using h1
    clear h1
    go_enter Try.func68, Try.ntmps68
    go_wp2_with fail
    refine (HCB.out _ HB.out).mono ?_
    rintro e w1 ⟨rfl, hb1⟩
    have HB1 := hid (HB.out.trans (hb1.mono HB.out.size))
    obtain ⟨x0, x1, x2⟩ := mcells_of (blkM HA0.out hb1)
    clear hb1
    go_wp2_with fail
    go_ret
    exact ⟨rfl, HB1.out⟩
set_option maxRecDepth 4000 in
set_option maxHeartbeats 1000000 in
theorem sqr_any (r c : Int) (sa : Option Addr) (n ka : Nat) (xs : List Nat) (d : Int) (w : World) (ha : FlM w sa n ka xs) (hn : n ≤ 17592186043904) :
    Calls Try.prog 46 #[MV r c sa n ka, .int .i64 d] w fun e w' => e = .returned (.int .i64 (sqrE r c n xs d)) ∧ Below w.heap.size w w' := by
  unfold sqrE
  have HA0 : Hid ((w.alloc (MBox r c sa n ka)).heap[w.heap.size]? = some (MBox r c sa n ka)) := nblkM _ _
  have HB : Hid (Below w.heap.size w (w.alloc (MBox r c sa n ka))) := (Below.refl _ _).alloc (Nat.le_refl _) _
  have HCB := hid (fun W (hW : Below w.heap.size w W) => tall_any r c sa n ka xs d W (ha.below hW) hn)
  obtain ⟨E, hEE⟩ : ∃ E, Hid (tallE r c n xs d = E) := ⟨_, rfl⟩
  rw [hEE.out] at HCB
  rw [hEE.out]
  obtain ⟨V, hV⟩ : ∃ V, Hid (w.alloc (MBox r c sa n ka) = V) := ⟨_, rfl⟩
  rw [hV.out] at HA0 HB
  have hV' := hV.out
  obtain ⟨x0, x1, x2⟩ := mcells_of HA0.out
  unfold MBox at hV'
  unfold MV at HCB ⊢
  clear ha hn
  by_cases h1 : E = 0
  · rw [if_pos h1]
    rw [h1] at HCB
    clear h1 hEE
    by_cases h2 : c = d
    · rw [if_pos h2]
      have d1 : (c != d) = false := by simpa using h2
      clear h2
      go_enter Try.func46, Try.ntmps46
      go_wp2_with fail
      refine (HCB.out _ HB.out).mono ?_
      rintro e w1 ⟨rfl, hb1⟩
      have HB1 := hid (HB.out.trans (hb1.mono HB.out.size))
      obtain ⟨x0, x1, x2⟩ := mcells_of (blkM HA0.out hb1)
      clear hb1
      go_wp2_with fail
      go_ret
      exact ⟨rfl, HB1.out⟩
    · rw [if_neg h2]
      have d1 : (c != d) = true := by simpa using h2
      clear h2
      go_enter Try.func46, Try.ntmps46
      go_wp2_with fail
      refine (HCB.out _ HB.out).mono ?_
      rintro e w1 ⟨rfl, hb1⟩
      have HB1 := hid (HB.out.trans (hb1.mono HB.out.size))
      obtain ⟨x0, x1, x2⟩ := mcells_of (blkM HA0.out hb1)
      clear hb1
      go_wp2_with fail
      go_ret
      exact ⟨rfl, HB1.out⟩
  · rw [if_neg h1]
    have d1 : (E != 0) = true := by simpa using h1
    clear h1
    go_enter Try.func46, Try.ntmps46
    go_wp2_with fail
    refine (HCB.out _ HB.out).mono ?_
    rintro e w1 ⟨rfl, hb1⟩
    have HB1 := hid (HB.out.trans (hb1.mono HB.out.size))
    obtain ⟨x0, x1, x2⟩ := mcells_of (blkM HA0.out hb1)
    clear hb1
    go_wp2_with fail
    go_ret
    exact ⟨rfl, HB1.out⟩
theorem rls_any (sa : Option Addr) (n ka : Nat) (xs : List Nat) (d : Int) (w : World) (ha : FlM w sa n ka xs) (hn : n ≤ 17592186043904) :
    Calls Try.prog 50 #[.slice sa n ka, .int .i64 d] w fun e w' => e = .returned (.int .i64 (lsE n xs d)) ∧ Below w.heap.size w w' := by
  unfold lsE
  have HF := hid (FinM_any sa n ka xs w ha hn)
  obtain ⟨F, hF⟩ : ∃ t, Hid (finM xs = t) := ⟨_, rfl⟩
  rw [hF.out] at HF
  rw [hF.out]
  clear ha hn
  by_cases h1 : (n : Int) = d
  · rw [if_pos h1]
    have d1 : ((n : Int) != d) = false := by simpa using h1
    clear h1
    cases F with
    | true =>
      rw [if_pos rfl]
      go_enter Try.func50, Try.ntmps50
      go_wp2_with fail
      refine HF.out.mono ?_
      rintro e w1 ⟨rfl, hb⟩
      have HB := hid hb
      clear hb
      go_wp2_with fail
      go_ret
      exact ⟨rfl, HB.out⟩
    | false =>
      rw [if_neg (by decide)]
      go_enter Try.func50, Try.ntmps50
      go_wp2_with fail
      refine HF.out.mono ?_
      rintro e w1 ⟨rfl, hb⟩
      have HB := hid hb
      clear hb
      go_wp2_with fail
      go_ret
      exact ⟨rfl, HB.out⟩
  · rw [if_neg h1]
    have d1 : ((n : Int) != d) = true := by simpa using h1
    clear h1
    go_enter Try.func50, Try.ntmps50
    go_wp2_with fail
    go_ret
    exact ⟨rfl, Below.refl _ _⟩
set_option maxHeartbeats 1000000 in
/-- A row that may be, with a variance above 0. -/
theorem row_fine (sa : Option Addr) (n ka : Nat) (xs : List Nat) (x : Nat) (d : Int) (w : World) (ha : FlM w sa n ka xs) (hn : n ≤ 17592186043904) (hl : lsE n xs d = 0) (hx : x < 18446744073709551616) (hf : finM [x] = true) (hp : (FloatKind.f64.format.order x 0 == some .lt) = false) (hq : (FloatKind.f64.format.order x 0 == some .eq) = false) :
    Calls Try.prog 19 #[.slice sa n ka, .float .f64 x, .int .i64 d] w fun e w' => e = .returned (.int .i64 0) ∧ Below w.heap.size w w' := by
  have HL := hid (rls_any sa n ka xs d w ha hn)
  rw [hl] at HL
  have HX := hid hx
  have HA := hid (fun W sb (h : FlM W sb 1 1 [x]) => areFin_any sb 1 1 [x] W h (by decide))
  rw [hf] at HA
  clear ha hn hl hx hf
  go_enter Try.func19, Try.ntmps19
  go_wp2_with fail
  refine HL.out.mono ?_
  rintro e w1 ⟨rfl, hb⟩
  have HB := hid hb
  clear hb
  have HB2 : Hid (Below w.heap.size w (w1.alloc (.cells #[.float .f64 x] 28))) := HB.out.alloc HB.out.size _
  have HO := hid (one_fl (w := w1.alloc (.cells #[.float .f64 x] 28)) (b := w1.heap.size) HX.out (by have h := nblkM w1 (.cells #[.float .f64 x] 28); unfold World.cell?; simp only []; rw [h]; rfl) (by simp))
  obtain ⟨V, hV⟩ : ∃ V, Hid (w1.alloc (.cells #[.float .f64 x] 28) = V) := ⟨_, rfl⟩
  rw [hV.out] at HB2 HO
  have hV' := hV.out
  go_wp2_with fail
  refine (HA.out _ _ HO.out).mono ?_
  rintro e w2 ⟨rfl, hb⟩
  have HB3 := hid (HB2.out.trans (hb.mono HB2.out.size))
  clear hb
  go_wp2_with fail
  go_ret
  exact ⟨rfl, HB3.out⟩
end Go.Proofs.Ythakhmnlpmfdgaa

namespace Go.Proofs.Ythakhmnlpmfdgaa
open Go.RowKit Go.IntWalk

set_option maxRecDepth 4000 in
set_option maxHeartbeats 1000000 in
/-- A piece of a good square matrix. -/
theorem rowOf_some (c m ka i b off : Nat) (w : World) (hm : m = c * c) (hc : c ≤ 12) (hi : i < c) (hk : m ≤ ka) (hk2 : ka ≤ 9223372036854775807) :
    Calls Try.prog 45 #[.agg #[.int .i64 c, .int .i64 c, .slice (some ⟨b, off, none⟩) m ka], .int .i64 i] w fun e w' => e = .returned (.slice (some ⟨b, off + i * c, none⟩) c (ka - i * c)) ∧ Below w.heap.size w w' := by
  have HA0 : Hid ((w.alloc (MBox c c (some ⟨b, off, none⟩) m ka)).heap[w.heap.size]? = some (MBox c c (some ⟨b, off, none⟩) m ka)) := nblkM _ _
  have HB : Hid (Below w.heap.size w (w.alloc (MBox c c (some ⟨b, off, none⟩) m ka))) := (Below.refl _ _).alloc (Nat.le_refl _) _
  obtain ⟨V, hV⟩ : ∃ V, Hid (w.alloc (MBox c c (some ⟨b, off, none⟩) m ka) = V) := ⟨_, rfl⟩
  rw [hV.out] at HA0 HB
  have hV' := hV.out
  obtain ⟨x0, x1, x2⟩ := mcells_of HA0.out
  unfold MBox at hV'
  have h1 : (i + 1) * c ≤ c * c := Nat.mul_le_mul_right _ hi
  have h2 : c * c ≤ 144 := Nat.mul_le_mul hc hc
  have h3 : (i + 1) * c = i * c + c := by rw [Nat.add_mul, Nat.one_mul]
  obtain ⟨p, hp⟩ : ∃ t, i * c = t := ⟨_, rfl⟩
  rw [hp] at h3 ⊢
  have e1 : (i : Int) * (c : Int) = (p : Int) := by rw [← hp]; simp
  have e2 : ((i : Int) + 1) * (c : Int) = ((p + c : Nat) : Int) := by rw [← h3]; simp
  have w1 : IntKind.i64.wrap ((i : Int) + 1) = (i : Int) + 1 := IntWalk.i64_in _ (by omega)
  have w2 : IntKind.i64.wrap (p : Int) = (p : Int) := IntWalk.i64_in _ (by omega)
  have w3 : IntKind.i64.wrap ((p + c : Nat) : Int) = ((p + c : Nat) : Int) := IntWalk.i64_in _ (by omega)
  have l1 : p + c ≤ ka := by omega
  have l2 : p + c ≤ m := by omega
  clear hp h1 h2 h3 hm
  go_enter Try.func45, Try.ntmps45
  go_wp2_with fail
  go_ret
  rw [show p + c - p = c by omega]
  exact ⟨rfl, HB.out⟩
/-- Is a number not above 0? -/
def leB (x : Nat) : Bool := (FloatKind.f64.format.order x 0 == some .lt) || (FloatKind.f64.format.order x 0 == some .eq)
def diagB (c : Nat) (f : Nat → Nat) : Bool := (List.range c).all fun i => !leB (f (i * c + i))
theorem diag_iff (c : Nat) (f : Nat → Nat) : diagB c f = true ↔ ∀ i, i < c → leB (f (i * c + i)) = false := by
  unfold diagB
  rw [List.all_eq_true]
  constructor
  · intro h i hi
    have := h i (List.mem_range.2 hi)
    simpa using this
  · intro h i hi
    rw [h i (List.mem_range.1 hi)]; rfl
theorem le_iff (x : Nat) : leB x = false ↔ (FloatKind.f64.format.order x 0 == some .lt) = false ∧ (FloatKind.f64.format.order x 0 == some .eq) = false := by
  unfold leB
  rw [Bool.or_eq_false_iff]
set_option maxRecDepth 4000 in
set_option maxHeartbeats 2000000 in
theorem cdiag_any (c m ka : Nat) (sa : Option Addr) (f : Nat → Nat) (w : World) (hg : Gd w c c sa m ka f) :
    Calls Try.prog 49 #[.agg #[.int .i64 c, .int .i64 c, .slice sa m ka]] w fun e w' => e = .returned (.int .i64 (if diagB c f = true then 0 else 93)) ∧ Below w.heap.size w w' := by
  have HA0 : Hid ((w.alloc (MBox c c sa m ka)).heap[w.heap.size]? = some (MBox c c sa m ka)) := nblkM _ _
  have HB : Hid (Below w.heap.size w (w.alloc (MBox c c sa m ka))) := (Below.refl _ _).alloc (Nat.le_refl _) _
  have HG := hid hg
  have hc12 := hg.1
  obtain ⟨V, hV⟩ : ∃ V, Hid (w.alloc (MBox c c sa m ka) = V) := ⟨_, rfl⟩
  rw [hV.out] at HA0 HB
  have hV' := hV.out
  obtain ⟨x0, x1, x2⟩ := mcells_of HA0.out
  unfold MBox at hV'
  have HD := hid (diag_iff c f)
  obtain ⟨E, hE⟩ : ∃ t, Hid ((if diagB c f = true then (0 : Int) else 93) = t) := ⟨_, rfl⟩
  rw [hE.out]
  clear hg
  go_enter Try.func49, Try.ntmps49
  go_wp2_with fail
  go_loopw [6] (fun iv wr => ∃ i : Nat, i ≤ c ∧ iv = .int .i64 i ∧ Hid (∀ j, j < i → leB (f (j * c + j)) = false) ∧ Hid (Below V.heap.size V wr)) (fun iv _ => c - (intOf iv).toNat)
  case atStart => exact ⟨0, Nat.zero_le _, rfl, fun j hj => absurd hj (Nat.not_lt_zero _), Below.refl _ _⟩
  case round =>
    obtain ⟨i, hi, rfl, HP, HW⟩ := hrel
    have hA := blkM HA0.out HW.out
    obtain ⟨x0, x1, x2⟩ := mcells_of hA
    clear hA
    by_cases hlt : i < c
    · have hiI : (i : Int) < (c : Int) := by omega
      have hi0 : (0 : Int) ≤ (i : Int) := by omega
      have hwi : IntKind.i64.wrap ((i : Int) + 1) = (i : Int) + 1 := IntWalk.i64_in _ (by omega)
      obtain ⟨b, off, hsa, hb1, hb2, hb3, hb4⟩ : ∃ b off, sa = some ⟨b, off, none⟩ ∧ b < w.heap.size ∧ m ≤ ka ∧ ka ≤ 9223372036854775807 ∧ ∀ j, j < m → w.cell? ⟨b, off + j, none⟩ = some (.float .f64 (f j)) := by
        rcases HG.out.2.2.2.1 with ⟨_, h0, _⟩ | ⟨b, off, h1, h2, h3, h4, h5⟩
        · have h1 := HG.out.2.2.1
          have : 0 < c * c := Nat.mul_pos (by omega) (by omega)
          omega
        · exact ⟨b, off, h1, h2, h3, h4, fun j hj => (h5 j hj).1⟩
      subst hsa
      have HRO := hid (fun W => rowOf_some c m ka i b off W HG.out.2.2.1 hc12 hlt hb2 hb3)
      have hcell : ∀ W, Below wr.heap.size wr W → W.cell? ⟨b, off + i * c + i, none⟩ = some (.float .f64 (f (i * c + i))) := fun W hW => by
        have h1 := ((HB.out.trans (HW.out.mono HB.out.size)).trans (hW.mono ((HB.out.trans (HW.out.mono HB.out.size)).size))).cell (p := ⟨b, off + (i * c + i), none⟩) hb1
        rw [Nat.add_assoc]
        exact h1.trans (hb4 _ (by have := HG.out.2.2.1; rw [this]; exact place_lt hlt hlt))
      have HCL := hid hcell
      obtain ⟨x, hx⟩ : ∃ t, Hid (f (i * c + i) = t) := ⟨_, rfl⟩
      rw [hx.out] at HCL
      clear hcell hb1 hb2 hb3 hb4
      by_cases hle : leB x = true
      · have HBAD : Hid (E = 93) := by
          show E = 93
          rw [← hE.out, if_neg (fun h => by have := HD.out.1 h i hlt; rw [hx.out, hle] at this; cases this)]
        unfold leB at hle
        go_wp2_with fail
        refine (HRO.out _).mono ?_
        rintro e w2 ⟨rfl, hb⟩
        have HW2 := hid (HW.out.trans (hb.mono HW.out.size))
        have hc0 := HCL.out _ hb
        clear hb
        by_cases h1 : FloatKind.f64.format.order x 0 = some .lt
        · go_wp2_with fail
          go_ret
          exact ⟨by rw [HBAD.out]; rfl, HB.out.trans (HW2.out.mono HB.out.size)⟩
        · have h2 : FloatKind.f64.format.order x 0 = some .eq := by
            rcases Bool.or_eq_true_iff.1 hle with h | h
            · exact absurd (by simpa using h) h1
            · simpa using h
          go_wp2_with fail
          go_ret
          exact ⟨by rw [HBAD.out]; rfl, HB.out.trans (HW2.out.mono HB.out.size)⟩
      · have hle' : leB x = false := by simpa using hle
        obtain ⟨l1, l2⟩ := (le_iff x).1 hle'
        have HNX : Hid (∀ j, j < i + 1 → leB (f (j * c + j)) = false) := fun j hj => by
          by_cases e : j = i
          · subst e; rw [hx.out]; exact hle'
          · exact HP.out j (by omega)
        clear hle hle'
        go_wp2_with fail
        refine (HRO.out _).mono ?_
        rintro e w2 ⟨rfl, hb⟩
        have HW2 := hid (HW.out.trans (hb.mono HW.out.size))
        have hc0 := HCL.out _ hb
        clear hb
        go_wp2_with fail
        go_roundw
        case rel => exact ⟨i + 1, by omega, by go_num, HNX, HW2⟩
        case measure => simp [intOf]; omega
    · obtain rfl : i = c := by omega
      have HOK : Hid (E = 0) := by
        show E = 0
        rw [← hE.out, if_pos (HD.out.2 HP.out)]
      go_wp2_with fail
      go_ret
      exact ⟨by rw [HOK.out]; rfl, HB.out.trans (HW.out.mono HB.out.size)⟩
end Go.Proofs.Ythakhmnlpmfdgaa

namespace Go.Proofs.Ythakhmnlpmfdgaa
open Go.RowKit Go.IntWalk

/-- Why a root may not be. -/
def rootE (zs : List Nat) (k : Nat) (r c : Int) (n : Nat) (xs : List Nat) : Int := if sqrE r c n xs (k : Int) = 0 then (if finM zs = true then (if lowT r c n xs = true then (if diagB r.toNat (fun j => xs.getD j 0) = true then 0 else 93) else 93) else 4) else sqrE r c n xs (k : Int)
theorem sqr_zero {r c : Int} {n : Nat} {xs : List Nat} {k : Nat} (h : sqrE r c n xs (k : Int) = 0) : r = (k : Int) ∧ c = (k : Int) ∧ chkM r c n xs = 0 := by
  unfold sqrE at h
  by_cases h1 : tallE r c n xs (k : Int) = 0
  · rw [if_pos h1] at h
    unfold tallE at h1
    by_cases h2 : chkM r c n xs = 0
    · rw [if_pos h2] at h1
      by_cases h3 : r = (k : Int)
      · by_cases h4 : c = (k : Int)
        · exact ⟨h3, h4, h2⟩
        · rw [if_neg h4] at h; exact absurd h (by decide)
      · rw [if_neg h3] at h1; exact absurd h1 (by decide)
    · rw [if_neg h2] at h1; exact absurd h1 h2
  · rw [if_neg h1] at h; exact absurd h h1
theorem gd_own_r {r c n : Nat} {sa : Option Addr} {ka : Nat} {xs : List Nat} {w : World} (h : FlM w sa n ka xs) (hz : chkM (r : Int) (c : Int) n xs = 0) : Gd w r c sa n ka (fun j => xs.getD j 0) := by
  obtain ⟨a, b, e1, e2, hg⟩ := gd_of h hz
  obtain rfl : r = a := by omega
  obtain rfl : c = b := by omega
  exact hg
set_option maxRecDepth 4000 in
set_option maxHeartbeats 2000000 in
theorem rcheck_any (xa : Option Addr) (k kx : Nat) (zs : List Nat) (r c : Int) (sa : Option Addr) (n ka : Nat) (xs : List Nat) (w : World) (hx : FlM w xa k kx zs) (hk : k ≤ 17592186043904) (ha : FlM w sa n ka xs) (hn : n ≤ 17592186043904) :
    Calls Try.prog 18 #[RV xa k kx r c sa n ka] w fun e w' => e = .returned (.int .i64 (rootE zs k r c n xs)) ∧ Below w.heap.size w w' := by
  have HA0 : Hid ((w.alloc (RBox xa k kx r c sa n ka)).heap[w.heap.size]? = some (RBox xa k kx r c sa n ka)) := nblkM _ _
  have HB : Hid (Below w.heap.size w (w.alloc (RBox xa k kx r c sa n ka))) := (Below.refl _ _).alloc (Nat.le_refl _) _
  have HS := hid (fun W (hW : Below w.heap.size w W) => sqr_any r c sa n ka xs (k : Int) W (ha.below hW) hn)
  have HX := hid (fun W (hW : Below w.heap.size w W) => FinM_any xa k kx zs W (hx.below hW) hk)
  have HL := hid (fun W (hW : Below w.heap.size w W) => Lower_tot r c sa n ka xs W (ha.below hW) hn)
  have HAF := hid ha
  obtain ⟨V, hV⟩ : ∃ V, Hid (w.alloc (RBox xa k kx r c sa n ka) = V) := ⟨_, rfl⟩
  rw [hV.out] at HA0 HB
  have hV' := hV.out
  obtain ⟨x0, x1, x2, x3⟩ := rcells_of HA0.out
  unfold RBox at hV'
  unfold RV
  unfold MV at HS
  unfold rootE
  obtain ⟨SE, hSE⟩ : ∃ t, Hid (sqrE r c n xs (k : Int) = t) := ⟨_, rfl⟩
  obtain ⟨FX, hFX⟩ : ∃ t, Hid (finM zs = t) := ⟨_, rfl⟩
  obtain ⟨LT, hLT⟩ : ∃ t, Hid (lowT r c n xs = t) := ⟨_, rfl⟩
  rw [hSE.out] at HS ⊢
  rw [hFX.out] at HX ⊢
  rw [hLT.out] at HL ⊢
  clear ha hx hn hk
  by_cases h1 : SE = 0
  · rw [if_pos h1]
    subst h1
    cases FX with
    | false =>
      rw [if_neg (by decide)]
      go_enter Try.func18, Try.ntmps18
      go_wp2_with fail
      refine (HS.out _ HB.out).mono ?_
      rintro e w1 ⟨rfl, hb⟩
      have HB1 := hid (HB.out.trans (hb.mono HB.out.size))
      obtain ⟨x0, x1, x2, x3⟩ := rcells_of (blkM HA0.out hb)
      have HA1 := hid (blkM HA0.out hb)
      clear hb
      go_wp2_with fail
      refine (HX.out _ HB1.out).mono ?_
      rintro e w2 ⟨rfl, hb⟩
      have HB2 := hid (HB1.out.trans (hb.mono HB1.out.size))
      obtain ⟨x0, x1, x2, x3⟩ := rcells_of (blkM HA1.out hb)
      have HA2 := hid (blkM HA1.out hb)
      clear hb
      go_wp2_with fail
      go_ret
      exact ⟨rfl, HB2.out⟩
    | true =>
      rw [if_pos rfl]
      cases LT with
      | false =>
        rw [if_neg (by decide)]
        go_enter Try.func18, Try.ntmps18
        go_wp2_with fail
        refine (HS.out _ HB.out).mono ?_
        rintro e w1 ⟨rfl, hb⟩
        have HB1 := hid (HB.out.trans (hb.mono HB.out.size))
        obtain ⟨x0, x1, x2, x3⟩ := rcells_of (blkM HA0.out hb)
        have HA1 := hid (blkM HA0.out hb)
        clear hb
        go_wp2_with fail
        refine (HX.out _ HB1.out).mono ?_
        rintro e w2 ⟨rfl, hb⟩
        have HB2 := hid (HB1.out.trans (hb.mono HB1.out.size))
        obtain ⟨x0, x1, x2, x3⟩ := rcells_of (blkM HA1.out hb)
        have HA2 := hid (blkM HA1.out hb)
        clear hb
        go_wp2_with fail
        refine (HL.out _ HB2.out).mono ?_
        rintro e w3 ⟨rfl, hb⟩
        have HB3 := hid (HB2.out.trans (hb.mono HB2.out.size))
        obtain ⟨x0, x1, x2, x3⟩ := rcells_of (blkM HA2.out hb)
        have HA3 := hid (blkM HA2.out hb)
        clear hb
        go_wp2_with fail
        go_ret
        exact ⟨rfl, HB3.out⟩
      | true =>
        rw [if_pos rfl]
        obtain ⟨q1, q2, q3⟩ := sqr_zero (hSE.out)
        subst q1
        subst q2
        rw [Int.toNat_natCast]
        have HD := hid (fun W (hW : Below w.heap.size w W) => cdiag_any k n ka sa (fun j => xs.getD j 0) W (gd_own_r (HAF.out.below hW) q3))
        obtain ⟨DE, hDE⟩ : ∃ t, Hid ((if diagB k (fun j => xs.getD j 0) = true then (0 : Int) else 93) = t) := ⟨_, rfl⟩
        rw [hDE.out] at HD ⊢
        clear q3
        go_enter Try.func18, Try.ntmps18
        go_wp2_with fail
        refine (HS.out _ HB.out).mono ?_
        rintro e w1 ⟨rfl, hb⟩
        have HB1 := hid (HB.out.trans (hb.mono HB.out.size))
        obtain ⟨x0, x1, x2, x3⟩ := rcells_of (blkM HA0.out hb)
        have HA1 := hid (blkM HA0.out hb)
        clear hb
        go_wp2_with fail
        refine (HX.out _ HB1.out).mono ?_
        rintro e w2 ⟨rfl, hb⟩
        have HB2 := hid (HB1.out.trans (hb.mono HB1.out.size))
        obtain ⟨x0, x1, x2, x3⟩ := rcells_of (blkM HA1.out hb)
        have HA2 := hid (blkM HA1.out hb)
        clear hb
        go_wp2_with fail
        refine (HL.out _ HB2.out).mono ?_
        rintro e w3 ⟨rfl, hb⟩
        have HB3 := hid (HB2.out.trans (hb.mono HB2.out.size))
        obtain ⟨x0, x1, x2, x3⟩ := rcells_of (blkM HA2.out hb)
        have HA3 := hid (blkM HA2.out hb)
        clear hb
        go_wp2_with fail
        refine (HD.out _ HB3.out).mono ?_
        rintro e w4 ⟨rfl, hb⟩
        have HB4 := hid (HB3.out.trans (hb.mono HB3.out.size))
        obtain ⟨x0, x1, x2, x3⟩ := rcells_of (blkM HA3.out hb)
        have HA4 := hid (blkM HA3.out hb)
        clear hb
        go_wp2_with fail
        go_ret
        exact ⟨rfl, HB4.out⟩
  · rw [if_neg h1]
    have hne : (SE != 0) = true := by simpa using h1
    clear h1
    go_enter Try.func18, Try.ntmps18
    go_wp2_with fail
    refine (HS.out _ HB.out).mono ?_
    rintro e w1 ⟨rfl, hb⟩
    have HB1 := hid (HB.out.trans (hb.mono HB.out.size))
    obtain ⟨x0, x1, x2, x3⟩ := rcells_of (blkM HA0.out hb)
    have HA1 := hid (blkM HA0.out hb)
    clear hb
    go_wp2_with fail
    go_ret
    exact ⟨rfl, HB1.out⟩
/-- What a root that may be is. -/
theorem rootE_zero {zs : List Nat} {k : Nat} {r c : Int} {n : Nat} {xs : List Nat} (h : rootE zs k r c n xs = 0) : r = (k : Int) ∧ c = (k : Int) ∧ chkM r c n xs = 0 ∧ finM zs = true ∧ lowT r c n xs = true ∧ diagB k (fun j => xs.getD j 0) = true := by
  unfold rootE at h
  by_cases h1 : sqrE r c n xs (k : Int) = 0
  · rw [if_pos h1] at h
    obtain ⟨e1, e2, e3⟩ := sqr_zero h1
    by_cases h2 : finM zs = true
    · rw [if_pos h2] at h
      by_cases h3 : lowT r c n xs = true
      · rw [if_pos h3] at h
        by_cases h4 : diagB r.toNat (fun j => xs.getD j 0) = true
        · rw [e1, Int.toNat_natCast] at h4
          exact ⟨e1, e2, e3, h2, h3, h4⟩
        · rw [if_neg h4] at h; exact absurd h (by decide)
      · rw [if_neg h3] at h; exact absurd h (by decide)
    · rw [if_neg h2] at h; exact absurd h (by decide)
  · rw [if_neg h1] at h; exact absurd h h1
end Go.Proofs.Ythakhmnlpmfdgaa
