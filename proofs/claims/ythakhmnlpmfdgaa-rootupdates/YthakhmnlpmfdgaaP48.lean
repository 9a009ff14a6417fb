
/- Two roots alike, two steps alike. -/
import Derived.Test.YthakhmnlpmfdgaaP47
import Derived.Test.YthakhmnlpmfdgaaP39
import Derived.Test.YthakhmnlpmfdgaaP41
namespace Go.Proofs.Ythakhmnlpmfdgaa
open Go.RowKit Go.IntWalk

set_option maxHeartbeats 1000000 in
theorem list15_yes (sa sb : Option Addr) (n ca cb : Nat) (f g : Nat → Nat) (w : World) (ha : FnM w sa n ca f) (hb : FnM w sb n cb g) (he : ∀ k, k < n → canonOf (f k) = canonOf (g k)) :
    Calls Try.prog 42 #[.slice sa n ca, .slice sb n cb] w fun e w' => e = .returned (.bool true) ∧ Below w.heap.size w w' := by
  have HS := hid (SameL_yes sa sb n ca cb f g w ha hb he)
  clear ha hb he
  go_enter Try.func42, Try.ntmps42
  go_wp2_with fail
  refine HS.out.mono ?_
  rintro e w1 ⟨rfl, hb⟩
  have HB := hid hb
  clear hb
  go_wp2_with fail
  go_ret
  exact ⟨rfl, HB.out⟩
set_option maxRecDepth 4000 in
set_option maxHeartbeats 2000000 in
theorem smat15_yes (r c : Int) (sa sb : Option Addr) (n ca cb : Nat) (f g : Nat → Nat) (w : World) (ha : FnM w sa n ca f) (hb : FnM w sb n cb g) (he : ∀ k, k < n → canonOf (f k) = canonOf (g k)) :
    Calls Try.prog 65 #[.agg #[.int .i64 r, .int .i64 c, .slice sa n ca], .agg #[.int .i64 r, .int .i64 c, .slice sb n cb]] w fun e w' => e = .returned (.bool true) ∧ Below w.heap.size w w' := by
  obtain ⟨t1, t2, t3, t4⟩ := two_b w (MBox r c sa n ca) (MBox r c sb n cb)
  obtain ⟨V, hV⟩ : ∃ t, Hid ((w.alloc (MBox r c sa n ca)).alloc (MBox r c sb n cb) = t) := ⟨_, rfl⟩
  rw [hV.out] at t1 t2 t3 t4
  have hV' := hV.out
  unfold MBox at hV'
  have HS := hid (list15_yes sa sb n ca cb f g V (ha.below t3) (hb.below t3) he)
  obtain ⟨p0, hp0⟩ : ∃ t, Hid (w.heap.size = t) := ⟨_, rfl⟩
  obtain ⟨p1, hp1⟩ : ∃ t, Hid (p0 + 1 = t) := ⟨_, rfl⟩
  rw [hp0.out] at t1 t2
  rw [hp1.out] at t2
  have e0 := hp0.out
  have e1 := hp1.out
  have HB := hid t3
  obtain ⟨x0, x1, x2⟩ := mcells_of t1
  obtain ⟨y0, y1, y2⟩ := mcells_of t2
  have hr : (r == r) = true := by simp
  have hc : (c == c) = true := by simp
  clear t1 t2 t3 t4 ha hb he
  go_enter Try.func65, Try.ntmps65
  go_wp2_with fail
  refine HS.out.mono ?_
  rintro e w1 ⟨rfl, hb⟩
  have HB1 := hid (HB.out.trans (hb.mono HB.out.size))
  clear hb
  go_wp2_with fail
  go_ret
  first
    | exact ⟨rfl, HB1.out⟩
    | exact ⟨rfl, hp0.out ▸ HB1.out⟩
set_option maxRecDepth 4000 in
set_option maxHeartbeats 2000000 in
theorem same16R_yes (xa xb : Option Addr) (k ka kb : Nat) (r c : Int) (sa sb : Option Addr) (n ca cb : Nat) (f1 g1 f g : Nat → Nat) (w : World) (hx : FnM w xa k ka f1) (hy : FnM w xb k kb g1) (hxy : ∀ i, i < k → canonOf (f1 i) = canonOf (g1 i)) (ha : FnM w sa n ca f) (hb : FnM w sb n cb g) (he : ∀ i, i < n → canonOf (f i) = canonOf (g i)) :
    Calls Try.prog 41 #[.agg #[.slice xa k ka, .int .i64 r, .int .i64 c, .slice sa n ca], .agg #[.slice xb k kb, .int .i64 r, .int .i64 c, .slice sb n cb]] w fun e w' => e = .returned (.bool true) ∧ Below w.heap.size w w' := by
  obtain ⟨t1, t2, t3, t4⟩ := two_b w (RBox xa k ka r c sa n ca) (RBox xb k kb r c sb n cb)
  obtain ⟨V, hV⟩ : ∃ t, Hid ((w.alloc (RBox xa k ka r c sa n ca)).alloc (RBox xb k kb r c sb n cb) = t) := ⟨_, rfl⟩
  rw [hV.out] at t1 t2 t3 t4
  have hV' := hV.out
  unfold RBox at hV'
  have HS := hid (SameL_yes xa xb k ka kb f1 g1 V (hx.below t3) (hy.below t3) hxy)
  have HM := hid (fun W (hW : Below w.heap.size w W) => smat15_yes r c sa sb n ca cb f g W (ha.below hW) (hb.below hW) he)
  obtain ⟨p0, hp0⟩ : ∃ t, Hid (w.heap.size = t) := ⟨_, rfl⟩
  obtain ⟨p1, hp1⟩ : ∃ t, Hid (p0 + 1 = t) := ⟨_, rfl⟩
  rw [hp0.out] at t1 t2
  rw [hp1.out] at t2
  have e0 := hp0.out
  have e1 := hp1.out
  have HB := hid t3
  have HT := hid (And.intro t1 t2)
  obtain ⟨x0, x1, x2, x3⟩ := rcells_of t1
  obtain ⟨y0, y1, y2, y3⟩ := rcells_of t2
  clear t1 t2 t3 t4 hx hy hxy ha hb he
  go_enter Try.func41, Try.ntmps41
  go_wp2_with fail
  refine HS.out.mono ?_
  rintro e w1 ⟨rfl, hb⟩
  have HB1 := hid (HB.out.trans (hb.mono HB.out.size))
  obtain ⟨x0, x1, x2, x3⟩ := rcells_of (blkM HT.out.1 hb)
  obtain ⟨y0, y1, y2, y3⟩ := rcells_of (blkM HT.out.2 hb)
  clear hb
  go_wp2_with fail
  refine (HM.out w1 HB1.out).mono ?_
  rintro e w2 ⟨rfl, hb⟩
  have HB2 := hid (HB1.out.trans (hb.mono HB1.out.size))
  clear hb
  go_wp2_with fail
  go_ret
  first
    | exact ⟨rfl, HB2.out⟩
    | exact ⟨rfl, hp0.out ▸ HB2.out⟩
set_option maxRecDepth 4000 in
set_option maxHeartbeats 2000000 in
theorem told16_yes (E : Int) (xa xb : Option Addr) (k ka kb : Nat) (r c : Int) (sa sb : Option Addr) (n ca cb : Nat) (f1 g1 f g : Nat → Nat) (w : World) (hx : FnM w xa k ka f1) (hy : FnM w xb k kb g1) (hxy : ∀ i, i < k → canonOf (f1 i) = canonOf (g1 i)) (ha : FnM w sa n ca f) (hb : FnM w sb n cb g) (he : ∀ i, i < n → canonOf (f i) = canonOf (g i)) :
    Calls Try.prog 14 #[.agg #[.slice xa k ka, .int .i64 r, .int .i64 c, .slice sa n ca], .int .i64 E, .agg #[.slice xb k kb, .int .i64 r, .int .i64 c, .slice sb n cb], .int .i64 E] w fun e w' => e = .returned (.bool true) ∧ Below w.heap.size w w' := by
  obtain ⟨t1, t2, t3, t4⟩ := two_b w (RBox xa k ka r c sa n ca) (RBox xb k kb r c sb n cb)
  obtain ⟨V, hV⟩ : ∃ t, Hid ((w.alloc (RBox xa k ka r c sa n ca)).alloc (RBox xb k kb r c sb n cb) = t) := ⟨_, rfl⟩
  rw [hV.out] at t1 t2 t3 t4
  have hV' := hV.out
  unfold RBox at hV'
  have HS := hid (same16R_yes xa xb k ka kb r c sa sb n ca cb f1 g1 f g V (hx.below t3) (hy.below t3) hxy (ha.below t3) (hb.below t3) he)
  obtain ⟨p0, hp0⟩ : ∃ t, Hid (w.heap.size = t) := ⟨_, rfl⟩
  obtain ⟨p1, hp1⟩ : ∃ t, Hid (p0 + 1 = t) := ⟨_, rfl⟩
  rw [hp0.out] at t1 t2
  rw [hp1.out] at t2
  have e0 := hp0.out
  have e1 := hp1.out
  have HB := hid t3
  obtain ⟨x0, x1, x2, x3⟩ := rcells_of t1
  obtain ⟨y0, y1, y2, y3⟩ := rcells_of t2
  have hE : (E == E) = true := by simp
  clear t1 t2 t3 t4 hx hy hxy ha hb he
  go_enter Try.func14, Try.ntmps14
  go_wp2_with fail
  refine HS.out.mono ?_
  rintro e w1 ⟨rfl, hb⟩
  have HB1 := hid (HB.out.trans (hb.mono HB.out.size))
  clear hb
  go_wp2_with fail
  go_ret
  first
    | exact ⟨rfl, HB1.out⟩
    | exact ⟨rfl, hp0.out ▸ HB1.out⟩
theorem three_fn (W : World) (a b c : Nat) (ha : a < 18446744073709551616) (hb : b < 18446744073709551616) (hc : c < 18446744073709551616) : FnM (W.alloc (.cells #[.float .f64 a, .float .f64 b, .float .f64 c] 28)) (some ⟨W.heap.size, 0, none⟩) 3 3 (fun j => [a, b, c].getD j 0) := by
  have h := nblkM W (.cells #[.float .f64 a, .float .f64 b, .float .f64 c] 28)
  refine Or.inr ⟨W.heap.size, 0, rfl, by simp, Nat.le_refl _, by decide, fun j hj => ?_⟩
  rcases j with _ | _ | _ | j
  · exact ⟨by unfold World.cell?; simp only []; rw [h]; rfl, ha⟩
  · exact ⟨by unfold World.cell?; simp only []; rw [h]; rfl, hb⟩
  · exact ⟨by unfold World.cell?; simp only []; rw [h]; rfl, hc⟩
  · omega
set_option maxRecDepth 4000 in
set_option maxHeartbeats 2000000 in
theorem sstep_yes (a b c a2 b2 c2 : Nat) (sa sb : Option Addr) (n ca cb : Nat) (f g : Nat → Nat) (w : World) (h1 : a < 18446744073709551616 ∧ b < 18446744073709551616 ∧ c < 18446744073709551616) (h2 : a2 < 18446744073709551616 ∧ b2 < 18446744073709551616 ∧ c2 < 18446744073709551616) (h3 : canonOf a = canonOf a2 ∧ canonOf b = canonOf b2 ∧ canonOf c = canonOf c2) (ha : FnM w sa n ca f) (hb : FnM w sb n cb g) (he : ∀ i, i < n → canonOf (f i) = canonOf (g i)) :
    Calls Try.prog 15 #[.agg #[.float .f64 a, .float .f64 b, .float .f64 c, .slice sa n ca], .agg #[.float .f64 a2, .float .f64 b2, .float .f64 c2, .slice sb n cb]] w fun e w' => e = .returned (.bool true) ∧ Below w.heap.size w w' := by
  obtain ⟨t1, t2, t3, t4⟩ := two_b w (StBox a b c sa n ca) (StBox a2 b2 c2 sb n cb)
  obtain ⟨V, hV⟩ : ∃ t, Hid ((w.alloc (StBox a b c sa n ca)).alloc (StBox a2 b2 c2 sb n cb) = t) := ⟨_, rfl⟩
  rw [hV.out] at t1 t2 t3 t4
  have hV' := hV.out
  unfold StBox at hV'
  have F1 := three_fn V a b c h1.1 h1.2.1 h1.2.2
  have al1 : Below V.heap.size V (V.alloc (.cells #[.float .f64 a, .float .f64 b, .float .f64 c] 28)) := (Below.refl _ _).alloc (Nat.le_refl _) _
  obtain ⟨V1, hV1⟩ : ∃ t, Hid (V.alloc (.cells #[.float .f64 a, .float .f64 b, .float .f64 c] 28) = t) := ⟨_, rfl⟩
  rw [hV1.out] at F1 al1
  have hV1' := hV1.out
  have F2 := three_fn V1 a2 b2 c2 h2.1 h2.2.1 h2.2.2
  have al2 : Below V1.heap.size V1 (V1.alloc (.cells #[.float .f64 a2, .float .f64 b2, .float .f64 c2] 28)) := (Below.refl _ _).alloc (Nat.le_refl _) _
  have F1' := F1.below al2
  obtain ⟨V2, hV2⟩ : ∃ t, Hid (V1.alloc (.cells #[.float .f64 a2, .float .f64 b2, .float .f64 c2] 28) = t) := ⟨_, rfl⟩
  rw [hV2.out] at F2 F1' al2
  have hV2' := hV2.out
  have al := al1.trans (al2.mono al1.size)
  have HB2 := hid (t3.trans (al.mono t3.size))
  have HT := hid (And.intro (blkM t1 al) (blkM t2 al))
  have HS := hid (list15_yes _ _ 3 3 3 _ _ V2 F1' F2 (fun k hk => by
    rcases k with _ | _ | _ | k
    · exact h3.1
    · exact h3.2.1
    · exact h3.2.2
    · omega))
  have HM := hid (fun W (hW : Below w.heap.size w W) => list15_yes sa sb n ca cb f g W (ha.below hW) (hb.below hW) he)
  obtain ⟨p0, hp0⟩ : ∃ t, Hid (w.heap.size = t) := ⟨_, rfl⟩
  obtain ⟨p1, hp1⟩ : ∃ t, Hid (p0 + 1 = t) := ⟨_, rfl⟩
  rw [hp0.out] at t1 t2 HT
  rw [hp1.out] at t2 HT
  obtain ⟨q1, hq1⟩ : ∃ t, Hid (V.heap.size = t) := ⟨_, rfl⟩
  obtain ⟨q2, hq2⟩ : ∃ t, Hid (V1.heap.size = t) := ⟨_, rfl⟩
  rw [hq1.out, hq2.out] at HS
  have e0 := hp0.out
  have e1 := hp1.out
  have e2 := hq1.out
  have e3 := hq2.out
  have HV1 := hid (And.intro (blkM t1 al1) (blkM t2 al1))
  obtain ⟨x0, x1, x2, x3⟩ := scells_of t1
  obtain ⟨y0, y1, y2, y3⟩ := scells_of t2
  obtain ⟨z0, z1, z2, z3⟩ := scells_of HV1.out.2
  clear t1 t2 t3 t4 ha hb he h1 h2 h3 al al1 al2 F1 F2 F1'
  go_enter Try.func15, Try.ntmps15
  go_wp2_with fail
  refine HS.out.mono ?_
  rintro e w1 ⟨rfl, hb⟩
  have HB3 := hid (HB2.out.trans (hb.mono HB2.out.size))
  obtain ⟨x0, x1, x2, x3⟩ := scells_of (blkM HT.out.1 hb)
  obtain ⟨y0, y1, y2, y3⟩ := scells_of (blkM HT.out.2 hb)
  clear hb
  go_wp2_with fail
  refine (HM.out w1 HB3.out).mono ?_
  rintro e w2 ⟨rfl, hb⟩
  have HB4 := hid (HB3.out.trans (hb.mono HB3.out.size))
  clear hb
  go_wp2_with fail
  go_ret
  first
    | exact ⟨rfl, HB4.out⟩
    | exact ⟨rfl, hp0.out ▸ HB4.out⟩
end Go.Proofs.Ythakhmnlpmfdgaa

namespace Go.Proofs.Ythakhmnlpmfdgaa
open Go.RowKit Go.IntWalk

theorem fin_is {Y c : Nat} (h : canonOf Y = c) (hc : finB c = true) : Y = c := by
  unfold canonOf at h
  by_cases q : 9218868437227405312 < Y % 9223372036854775808
  · rw [if_pos q] at h
    subst h
    exact absurd hc (by decide)
  · rw [if_neg q] at h
    exact h
def fP (E : Int) (hs zs : List Nat) (n : Nat) : Nat := if E = 0 then dotW hs zs n else 0
def fQ (E : Int) (f : Nat → Nat) (hs : List Nat) (n x : Nat) : Nat := if E = 0 then sumA (alV f hs n) x n n else 0
theorem forT_zero {zs : List Nat} {k : Nat} {r c : Int} {m : Nat} {xs : List Nat} {q : Nat} {hs : List Nat} {x : Nat} (h : forT zs k r c m xs q hs x = 0) : forE k (fun j => xs.getD j 0) hs zs x = 0 := by
  unfold forT at h
  by_cases h1 : rootE zs k r c m xs = 0
  · rw [if_pos h1] at h
    by_cases h2 : rrowE q hs (k : Int) x = 0
    · rw [if_pos h2] at h; exact h
    · rw [if_neg h2] at h; exact absurd h h2
  · rw [if_neg h1] at h; exact absurd h h1
theorem updT_zero {zs : List Nat} {k : Nat} {r c : Int} {m : Nat} {xs : List Nat} {q : Nat} {hs : List Nat} {x z : Nat} (h : updT zs k r c m xs q hs x z = 0) : updB (fun j => xs.getD j 0) hs zs k x z = true := by
  unfold updT at h
  by_cases h1 : rootE zs k r c m xs = 0
  · rw [if_pos h1] at h
    by_cases h2 : rrowE q hs (k : Int) x = 0
    · rw [if_pos h2] at h
      by_cases h3 : finM [z] = true
      · rw [if_pos h3, updE_is] at h
        by_cases h4 : updB (fun j => xs.getD j 0) hs zs k x z = true
        · exact h4
        · rw [if_neg h4] at h; exact absurd h (by decide)
      · rw [if_neg h3] at h; exact absurd h (by decide)
    · rw [if_neg h2] at h; exact absurd h h2
  · rw [if_neg h1] at h; exact absurd h h1
theorem Foresee_is (xa : Option Addr) (k kx : Nat) (zs : List Nat) (r c : Int) (sa : Option Addr) (m ka : Nat) (xs : List Nat) (ha : Option Addr) (q kh x : Nat) (hs : List Nat) (w : World) (hX : FlM w xa k kx zs) (hk : k ≤ 17592186043904) (hA : FlM w sa m ka xs) (hm : m ≤ 17592186043904) (hH : FlM w ha q kh hs) (hq : q ≤ 17592186043904) (hx : x < 18446744073709551616) :
    Calls Try.prog 5 #[.agg #[.slice xa k kx, .int .i64 r, .int .i64 c, .slice sa m ka], .slice ha q kh, .float .f64 x] w fun e w' => e = .returned (.tuple #[.float .f64 (fP (forT zs k r c m xs q hs x) hs zs k), .float .f64 (fQ (forT zs k r c m xs q hs x) (fun j => xs.getD j 0) hs k x), .int .i64 (forT zs k r c m xs q hs x)]) ∧ Below w.heap.size w w' := by
  refine (Foresee_any xa k kx zs r c sa m ka xs ha q kh x hs w hX hk hA hm hH hq hx).mono ?_
  rintro e w' ⟨h, hb⟩
  refine ⟨?_, hb⟩
  unfold fP fQ
  rcases h with ⟨h0, A, hA, _, rfl⟩ | ⟨h0, rfl⟩
  · rw [if_pos h0, if_pos h0, h0, fin_is hA (forE_zero (forT_zero h0)).2.2]
  · rw [if_neg h0, if_neg h0]
theorem rForesee_is (xa : Option Addr) (k kx : Nat) (zs : List Nat) (r c : Int) (sa : Option Addr) (m ka : Nat) (xs : List Nat) (ha : Option Addr) (q kh x : Nat) (hs : List Nat) (w : World) (hX : FlM w xa k kx zs) (hk : k ≤ 17592186043904) (hA : FlM w sa m ka xs) (hm : m ≤ 17592186043904) (hH : FlM w ha q kh hs) (hq : q ≤ 17592186043904) (hx : x < 18446744073709551616) :
    Calls Try.prog 9 #[.agg #[.slice xa k kx, .int .i64 r, .int .i64 c, .slice sa m ka], .slice ha q kh, .float .f64 x] w fun e w' => (∃ U V : Nat, e = .returned (.tuple #[.float .f64 U, .float .f64 V, .int .i64 (forT zs k r c m xs q hs x)]) ∧ (U < 18446744073709551616 ∧ V < 18446744073709551616) ∧ canonOf U = fP (forT zs k r c m xs q hs x) hs zs k ∧ canonOf V = fQ (forT zs k r c m xs q hs x) (fun j => xs.getD j 0) hs k x) ∧ Below w.heap.size w w' := by
  refine (rForesee_any xa k kx zs r c sa m ka xs ha q kh x hs w hX hk hA hm hH hq hx).mono ?_
  rintro e w' ⟨h, hb⟩
  refine ⟨?_, hb⟩
  unfold fP fQ
  rcases h with ⟨h0, M, A, hM, hA, rfl⟩ | ⟨h0, rfl⟩
  · rw [if_pos h0, if_pos h0, h0]
    exact ⟨M, A, rfl, ⟨hM.1, hA.1⟩, hM.2, hA.2⟩
  · rw [if_neg h0, if_neg h0]
    exact ⟨0, 0, rfl, ⟨by decide, by decide⟩, by decide, by decide⟩
/-- What an update tells, of either side. -/
def UpK (E : Int) (f : Nat → Nat) (hs zs : List Nat) (n x z : Nat) (W : World) (ux : Option Addr) (k1 k2 : Nat) (r1 c1 : Int) (ul : Option Addr) (k3 k4 Y A S1 : Nat) (ug : Option Addr) (k5 k6 : Nat) : Prop :=
  (E = 0 ∧ (k1 = n ∧ r1 = n ∧ c1 = n ∧ k3 = n * n ∧ k5 = n) ∧ (∃ xo lo go : Nat → Nat, FnM W ux k1 k2 xo ∧ FnM W ul k3 k4 lo ∧ FnM W ug k5 k6 go ∧ (∀ i, i < n → canonOf (xo i) = xU f hs zs n x z i) ∧ (∀ k, k < n * n → canonOf (lo k) = oU f hs n x k) ∧ ∀ i, i < n → canonOf (go i) = gU f hs n x i) ∧ (canonOf Y = yU hs zs n z ∧ Y < 18446744073709551616) ∧ (canonOf A = sU f hs n x 0 ∧ A < 18446744073709551616) ∧ canonOf S1 = scU f hs zs n x z ∧ S1 < 18446744073709551616) ∨
  (E ≠ 0 ∧ ux = none ∧ k1 = 0 ∧ k2 = 0 ∧ r1 = 0 ∧ c1 = 0 ∧ ul = none ∧ k3 = 0 ∧ k4 = 0 ∧ Y = 0 ∧ A = 0 ∧ S1 = 0 ∧ ug = none ∧ k5 = 0 ∧ k6 = 0)
def NwT (ux ul ug : Option Addr) (B : Nat) : Prop := (∀ g o, ux = some ⟨g, o, none⟩ → B ≤ g) ∧ (∀ g o, ul = some ⟨g, o, none⟩ → B ≤ g) ∧ ∀ g o, ug = some ⟨g, o, none⟩ → B ≤ g
def DjT (ux ul ug : Option Addr) (b : Nat) : Prop := (∀ g o, ux = some ⟨g, o, none⟩ → g ≠ b) ∧ (∀ g o, ul = some ⟨g, o, none⟩ → g ≠ b) ∧ ∀ g o, ug = some ⟨g, o, none⟩ → g ≠ b
theorem kept_djt (ux ul ug : Option Addr) (b : Nat) : Kept (fun _ => DjT ux ul ug b) := ⟨fun _ _ _ h => h, fun _ _ _ _ _ _ _ _ _ _ _ _ _ h => h⟩
theorem djt_new {ux ul ug : Option Addr} {W : World} {b : Nat} {o : Obj} (h : NwT ux ul ug W.heap.size) (hb : W.heap[b]? = some o) : DjT ux ul ug b := by
  have h1 := (Array.getElem?_eq_some_iff.1 hb).1
  exact ⟨fun g o e => by have := h.1 g o e; omega, fun g o e => by have := h.2.1 g o e; omega, fun g o e => by have := h.2.2 g o e; omega⟩
theorem djt_old {ux ul ug : Option Addr} {N b : Nat} (h : (∀ g o, ux = some ⟨g, o, none⟩ → g < N) ∧ (∀ g o, ul = some ⟨g, o, none⟩ → g < N) ∧ ∀ g o, ug = some ⟨g, o, none⟩ → g < N) (hb : N = b) : DjT ux ul ug b := ⟨fun g o e => by have := h.1 g o e; omega, fun g o e => by have := h.2.1 g o e; omega, fun g o e => by have := h.2.2 g o e; omega⟩
theorem fnm_lt {W : World} {s : Option Addr} {n k : Nat} {f : Nat → Nat} (h : FnM W s n k f) : ∀ g o, s = some ⟨g, o, none⟩ → g < W.heap.size := by
  intro g o e
  rcases h with ⟨h, _⟩ | ⟨b, off, h, h1, _⟩
  · rw [h] at e; cases e
  · rw [h] at e; cases e; exact h1
section
variable {E : Int} {f : Nat → Nat} {hs zs : List Nat} {n x z : Nat} {W W' : World} {ux : Option Addr} {k1 k2 : Nat} {r1 c1 : Int} {ul : Option Addr} {k3 k4 Y A S1 : Nat} {ug : Option Addr} {k5 k6 : Nat}
theorem UpK.old (h : UpK E f hs zs n x z W ux k1 k2 r1 c1 ul k3 k4 Y A S1 ug k5 k6) : (∀ g o, ux = some ⟨g, o, none⟩ → g < W.heap.size) ∧ (∀ g o, ul = some ⟨g, o, none⟩ → g < W.heap.size) ∧ ∀ g o, ug = some ⟨g, o, none⟩ → g < W.heap.size := by
  rcases h with ⟨_, _, ⟨xo, lo, go, h1, h2, h3, _⟩, _⟩ | ⟨_, rfl, _, _, _, _, rfl, _, _, _, _, _, rfl, _⟩
  · exact ⟨fnm_lt h1, fnm_lt h2, fnm_lt h3⟩
  · exact ⟨fun _ _ e => by (cases e), fun _ _ e => by (cases e), fun _ _ e => by (cases e)⟩
theorem UpK.map (h : UpK E f hs zs n x z W ux k1 k2 r1 c1 ul k3 k4 Y A S1 ug k5 k6) (hm1 : ∀ o, FnM W ux k1 k2 o → FnM W' ux k1 k2 o) (hm2 : ∀ o, FnM W ul k3 k4 o → FnM W' ul k3 k4 o) (hm3 : ∀ o, FnM W ug k5 k6 o → FnM W' ug k5 k6 o) : UpK E f hs zs n x z W' ux k1 k2 r1 c1 ul k3 k4 Y A S1 ug k5 k6 := by
  rcases h with ⟨a, b, ⟨xo, lo, go, h1, h2, h3, h4⟩, c⟩ | h
  · exact Or.inl ⟨a, b, ⟨xo, lo, go, hm1 _ h1, hm2 _ h2, hm3 _ h3, h4⟩, c⟩
  · exact Or.inr h
theorem UpK.below (h : UpK E f hs zs n x z W ux k1 k2 r1 c1 ul k3 k4 Y A S1 ug k5 k6) (hb : Below W.heap.size W W') : UpK E f hs zs n x z W' ux k1 k2 r1 c1 ul k3 k4 Y A S1 ug k5 k6 := h.map (fun _ q => q.below hb) (fun _ q => q.below hb) (fun _ q => q.below hb)
theorem UpK.sto (h : UpK E f hs zs n x z W ux k1 k2 r1 c1 ul k3 k4 Y A S1 ug k5 k6) {b : Nat} (hd : DjT ux ul ug b) (p q r s : Value) : UpK E f hs zs n x z ((((W.setCell ⟨b, 0, none⟩ p).setCell ⟨b, 1, none⟩ q).setCell ⟨b, 2, none⟩ r).setCell ⟨b, 3, none⟩ s) ux k1 k2 r1 c1 ul k3 k4 Y A S1 ug k5 k6 := h.map (fun _ t => t.sto4 hd.1 _ _ _ _) (fun _ t => t.sto4 hd.2.1 _ _ _ _) (fun _ t => t.sto4 hd.2.2 _ _ _ _)
end
theorem kept_upk (E : Int) (f : Nat → Nat) (hs zs : List Nat) (n x z : Nat) (ux : Option Addr) (k1 k2 : Nat) (r1 c1 : Int) (ul : Option Addr) (k3 k4 Y A S1 : Nat) (ug : Option Addr) (k5 k6 : Nat) : Kept (fun W => UpK E f hs zs n x z W ux k1 k2 r1 c1 ul k3 k4 Y A S1 ug k5 k6) := ⟨fun _ _ hb h => h.below hb, fun _ _ _ _ _ _ _ _ _ _ _ _ hb h => h.map (fun _ q => StoM.fn q hb) (fun _ q => StoM.fn q hb) (fun _ q => StoM.fn q hb)⟩
theorem Update_is (xa : Option Addr) (k kx : Nat) (zs : List Nat) (r c : Int) (sa : Option Addr) (m ka : Nat) (xs : List Nat) (ha : Option Addr) (q kh x z : Nat) (hs : List Nat) (w : World) (hX : FlM w xa k kx zs) (hk : k ≤ 17592186043904) (hA : FlM w sa m ka xs) (hm : m ≤ 17592186043904) (hH : FlM w ha q kh hs) (hq : q ≤ 17592186043904) (hx : x < 18446744073709551616) (hz : z < 18446744073709551616) :
    Calls Try.prog 12 #[.agg #[.slice xa k kx, .int .i64 r, .int .i64 c, .slice sa m ka], .slice ha q kh, .float .f64 x, .float .f64 z] w fun e w' => (∃ (ux : Option Addr) (k1 k2 : Nat) (r1 c1 : Int) (ul : Option Addr) (k3 k4 Y A S1 : Nat) (ug : Option Addr) (k5 k6 : Nat), e = .returned (.tuple #[.agg #[.slice ux k1 k2, .int .i64 r1, .int .i64 c1, .slice ul k3 k4], .agg #[.float .f64 Y, .float .f64 A, .float .f64 S1, .slice ug k5 k6], .int .i64 (updT zs k r c m xs q hs x z)]) ∧ UpK (updT zs k r c m xs q hs x z) (fun j => xs.getD j 0) hs zs k x z w' ux k1 k2 r1 c1 ul k3 k4 Y A S1 ug k5 k6 ∧ NwT ux ul ug w.heap.size) ∧ Below w.heap.size w w' := by
  refine (Update_any xa k kx zs r c sa m ka xs ha q kh x z hs w hX hk hA hm hH hq hx hz).mono ?_
  rintro e w' ⟨h, hb⟩
  refine ⟨?_, hb⟩
  rcases h with ⟨h0, gx, gl, gg, Y, A, S, xo, lo, go, rfl, b1, b2, b3, f1, f2, f3, e1, e2, e3, hY, hA, hS⟩ | ⟨h0, rfl⟩
  · have hU := updT_zero h0
    have hY2 := fin_is hY (upd_y hU)
    have hS2 := fin_is hS (upd_sc hU)
    have hsA : sU (fun j => xs.getD j 0) hs k x 0 < 18446744073709551616 := sumA_lt _ _ _ _ hx
    have hcA : canonOf A = sU (fun j => xs.getD j 0) hs k x 0 := by
      have h1 := updB_for hU
      unfold forB at h1
      simp only [Bool.and_eq_true] at h1
      have h2 : finB A = true := by rw [hA]; exact sum_down hx h1.2 0 (k - 0) (by omega)
      rw [canon_fin h2, hA]
    rw [h0]
    refine ⟨some ⟨gx, 0, none⟩, k, k, k, k, some ⟨gl, 0, none⟩, k * k, k * k, Y, A, S, some ⟨gg, 0, none⟩, k, k, rfl, Or.inl ⟨rfl, ⟨rfl, rfl, rfl, rfl, rfl⟩, ⟨xo, lo, go, f1, f2, f3, e1, e2, e3⟩, ⟨hY, by rw [hY2]; exact caf_lt .sub ok_s _ _⟩, ⟨hcA, by rw [hA]; exact hsA⟩, hS, by rw [hS2]; exact quoc_lt _ _⟩, fun g o e => by cases e; exact b1, fun g o e => by cases e; exact b2, fun g o e => by cases e; exact b3⟩
  · exact ⟨none, 0, 0, 0, 0, none, 0, 0, 0, 0, 0, none, 0, 0, rfl, Or.inr ⟨h0, rfl, rfl, rfl, rfl, rfl, rfl, rfl, rfl, rfl, rfl, rfl, rfl, rfl, rfl⟩, fun _ _ e => by (cases e), fun _ _ e => by (cases e), fun _ _ e => by (cases e)⟩
theorem rUpdate_is (xa : Option Addr) (k kx : Nat) (zs : List Nat) (r c : Int) (sa : Option Addr) (m ka : Nat) (xs : List Nat) (ha : Option Addr) (q kh x z : Nat) (hs : List Nat) (w : World) (hX : FlM w xa k kx zs) (hk : k ≤ 17592186043904) (hA : FlM w sa m ka xs) (hm : m ≤ 17592186043904) (hH : FlM w ha q kh hs) (hq : q ≤ 17592186043904) (hx : x < 18446744073709551616) (hz : z < 18446744073709551616) :
    Calls Try.prog 13 #[.agg #[.slice xa k kx, .int .i64 r, .int .i64 c, .slice sa m ka], .slice ha q kh, .float .f64 x, .float .f64 z] w fun e w' => (∃ (ux : Option Addr) (k1 k2 : Nat) (r1 c1 : Int) (ul : Option Addr) (k3 k4 Y A S1 : Nat) (ug : Option Addr) (k5 k6 : Nat), e = .returned (.tuple #[.agg #[.slice ux k1 k2, .int .i64 r1, .int .i64 c1, .slice ul k3 k4], .agg #[.float .f64 Y, .float .f64 A, .float .f64 S1, .slice ug k5 k6], .int .i64 (updT zs k r c m xs q hs x z)]) ∧ UpK (updT zs k r c m xs q hs x z) (fun j => xs.getD j 0) hs zs k x z w' ux k1 k2 r1 c1 ul k3 k4 Y A S1 ug k5 k6 ∧ NwT ux ul ug w.heap.size) ∧ Below w.heap.size w w' := by
  refine (rUpdate_any xa k kx zs r c sa m ka xs ha q kh x z hs w hX hk hA hm hH hq hx hz).mono ?_
  rintro e w' ⟨h, hb⟩
  refine ⟨?_, hb⟩
  rcases h with ⟨h0, sx, sg, kxx, kg, gl, Y, A, S, xo, lo, go, rfl, f1, f2, f3, e1, e2, e3, hY, hA, hS, b1, b2, b3⟩ | ⟨h0, rfl⟩
  · rw [h0]
    exact ⟨sx, k, kxx, k, k, some ⟨gl, 0, none⟩, k * k, k * k, Y, A, S, sg, k, kg, rfl, Or.inl ⟨rfl, ⟨rfl, rfl, rfl, rfl, rfl⟩, ⟨xo, lo, go, f1, f2, f3, e1, e2, e3⟩, hY, hA, hS⟩, b1, fun g o e => by cases e; exact b2, b3⟩
  · exact ⟨none, 0, 0, 0, 0, none, 0, 0, 0, 0, 0, none, 0, 0, rfl, Or.inr ⟨h0, rfl, rfl, rfl, rfl, rfl, rfl, rfl, rfl, rfl, rfl, rfl, rfl, rfl, rfl⟩, fun _ _ e => by (cases e), fun _ _ e => by (cases e), fun _ _ e => by (cases e)⟩
/-- Both sides tell the same. -/
theorem told_both {E : Int} {f : Nat → Nat} {hs zs : List Nat} {n x z : Nat} {w : World} {ux : Option Addr} {k1 k2 : Nat} {r1 c1 : Int} {ul : Option Addr} {k3 k4 Y A S1 : Nat} {ug : Option Addr} {k5 k6 : Nat} {vx : Option Addr} {j1 j2 : Nat} {r2 c2 : Int} {vl : Option Addr} {j3 j4 Y2 A2 S2 : Nat} {vg : Option Addr} {j5 j6 : Nat} (hu : UpK E f hs zs n x z w ux k1 k2 r1 c1 ul k3 k4 Y A S1 ug k5 k6) (hv : UpK E f hs zs n x z w vx j1 j2 r2 c2 vl j3 j4 Y2 A2 S2 vg j5 j6) :
    Calls Try.prog 14 #[.agg #[.slice ux k1 k2, .int .i64 r1, .int .i64 c1, .slice ul k3 k4], .int .i64 E, .agg #[.slice vx j1 j2, .int .i64 r2, .int .i64 c2, .slice vl j3 j4], .int .i64 E] w fun e w' => e = .returned (.bool true) ∧ Below w.heap.size w w' := by
  rcases hu with ⟨_, ⟨rfl, rfl, rfl, rfl, rfl⟩, ⟨xo, lo, go, f1, f2, f3, e1, e2, e3⟩, _⟩ | ⟨h0, rfl, rfl, rfl, rfl, rfl, rfl, rfl, rfl, rfl, rfl, rfl, rfl, rfl, rfl⟩
  · rcases hv with ⟨_, ⟨rfl, rfl, rfl, rfl, rfl⟩, ⟨xo2, lo2, go2, g1, g2, g3, d1, d2, d3⟩, _⟩ | ⟨h0, _⟩
    · exact told16_yes E ux vx j5 k2 j2 j5 j5 ul vl (j5 * j5) k4 j4 xo xo2 lo lo2 w f1 g1 (fun i hi => by rw [e1 i hi, d1 i hi]) f2 g2 (fun i hi => by rw [e2 i hi, d2 i hi])
    · exact absurd (by assumption) h0
  · rcases hv with ⟨h1, _⟩ | ⟨_, rfl, rfl, rfl, rfl, rfl, rfl, rfl, rfl, rfl, rfl, rfl, rfl, rfl, rfl⟩
    · exact absurd h1 h0
    · exact told16_yes E none none 0 0 0 0 0 none none 0 0 0 (fun _ => 0) (fun _ => 0) (fun _ => 0) (fun _ => 0) w (Or.inl ⟨rfl, rfl, rfl⟩) (Or.inl ⟨rfl, rfl, rfl⟩) (fun _ _ => rfl) (Or.inl ⟨rfl, rfl, rfl⟩) (Or.inl ⟨rfl, rfl, rfl⟩) (fun _ _ => rfl)
theorem step_both {E : Int} {f : Nat → Nat} {hs zs : List Nat} {n x z : Nat} {w : World} {ux : Option Addr} {k1 k2 : Nat} {r1 c1 : Int} {ul : Option Addr} {k3 k4 Y A S1 : Nat} {ug : Option Addr} {k5 k6 : Nat} {vx : Option Addr} {j1 j2 : Nat} {r2 c2 : Int} {vl : Option Addr} {j3 j4 Y2 A2 S2 : Nat} {vg : Option Addr} {j5 j6 : Nat} (hu : UpK E f hs zs n x z w ux k1 k2 r1 c1 ul k3 k4 Y A S1 ug k5 k6) (hv : UpK E f hs zs n x z w vx j1 j2 r2 c2 vl j3 j4 Y2 A2 S2 vg j5 j6) :
    Calls Try.prog 15 #[.agg #[.float .f64 Y, .float .f64 A, .float .f64 S1, .slice ug k5 k6], .agg #[.float .f64 Y2, .float .f64 A2, .float .f64 S2, .slice vg j5 j6]] w fun e w' => e = .returned (.bool true) ∧ Below w.heap.size w w' := by
  rcases hu with ⟨_, ⟨rfl, rfl, rfl, rfl, rfl⟩, ⟨xo, lo, go, f1, f2, f3, e1, e2, e3⟩, hy, ha, hc⟩ | ⟨h0, rfl, rfl, rfl, rfl, rfl, rfl, rfl, rfl, rfl, rfl, rfl, rfl, rfl, rfl⟩
  · rcases hv with ⟨_, ⟨rfl, rfl, rfl, rfl, rfl⟩, ⟨xo2, lo2, go2, g1, g2, g3, d1, d2, d3⟩, hy2, ha2, hc2⟩ | ⟨h0, _⟩
    · exact sstep_yes Y A S1 Y2 A2 S2 ug vg _ k6 j6 go go2 w ⟨hy.2, ha.2, hc.2⟩ ⟨hy2.2, ha2.2, hc2.2⟩ ⟨hy.1.trans hy2.1.symm, ha.1.trans ha2.1.symm, hc.1.trans hc2.1.symm⟩ f3 g3 (fun i hi => by rw [e3 i hi, d3 i hi])
    · exact absurd (by assumption) h0
  · rcases hv with ⟨h1, _⟩ | ⟨_, rfl, rfl, rfl, rfl, rfl, rfl, rfl, rfl, rfl, rfl, rfl, rfl, rfl, rfl⟩
    · exact absurd h1 h0
    · exact sstep_yes 0 0 0 0 0 0 none none 0 0 0 (fun _ => 0) (fun _ => 0) w ⟨by decide, by decide, by decide⟩ ⟨by decide, by decide, by decide⟩ ⟨rfl, rfl, rfl⟩ (Or.inl ⟨rfl, rfl, rfl⟩) (Or.inl ⟨rfl, rfl, rfl⟩) (fun _ _ => rfl)
end Go.Proofs.Ythakhmnlpmfdgaa
