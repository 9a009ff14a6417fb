
/- root's carlson. (Written by mkrte.py.) -/
import Derived.Test.YthakhmnlpmfdgaaP32
import Derived.Test.YthakhmnlpmfdgaaP33
import Derived.Test.YthakhmnlpmfdgaaP28
namespace Go.Proofs.Ythakhmnlpmfdgaa
open Go.RowKit Go.IntWalk

theorem sqrtR_run (x r : Nat) (h : FloatKind.f64.format.sqrt x = some r) (w : World) : (callFunc 63 #[.float .f64 x]).run Try.prog w = .ok (.value (.float .f64 r)) w := by
  rw [run_callFunc_extern Try.func63 (by kernel_rfl) (by kernel_rfl) (by kernel_rfl) (e := Extern.MathSqrt.sqrt) (by kernel_rfl)]
  have e : Extern.MathSqrt.sqrt #[.float .f64 x] = pure (.float .f64 r) := by
    show (match FloatKind.f64.format.sqrt x with
      | some r => pure (Value.float .f64 r)
      | none => do pure (Value.float .f64 (← choose (.nanBits .f64 x x)))) = _
    rw [h]
  rw [e]
  rfl
theorem SqrtR (x r : Nat) (w : World) (h : FloatKind.f64.format.sqrt x = some r) : Calls Try.prog 37 #[.float .f64 x] w fun z w' => z = .returned (.float .f64 r) ∧ w' = w := by
  have hq := sqrtR_run x r h
  clear h
  go_enter Try.func37, Try.ntmps37
  go_wp2
  go_ret
  exact ⟨rfl, rfl⟩

theorem quG_heap (x y : Nat) (w : World) : (quG x y w).heap = w.heap := by unfold quG; split <;> rfl
def sqrW (x : Nat) : Nat := (FloatKind.f64.format.sqrt x).getD 0
theorem div_nan {x y : Nat} (h : NaNW x ∨ NaNW y) : floatBits .quo .f64 x y = none := by
  show FloatKind.f64.format.div x y = none
  unfold Ieee.Format.div
  rcases h with h | h
  · obtain ⟨s, t, e⟩ := read_nan x h.2
    rw [e]
    rfl
  · obtain ⟨s, t, e⟩ := read_nan y h.2
    rw [e]
    cases FloatKind.f64.format.read x <;> rfl
theorem quo_canon (x y : Nat) (hx : x < 18446744073709551616) (hy : y < 18446744073709551616) : caf .quo x y = caf .quo (canonOf x) (canonOf y) := by
  unfold caf
  have hc : NaNW 9221120237041090561 := ⟨by decide, by decide⟩
  rcases canon_is x hx with ⟨n1, e1⟩ | ⟨n1, e1⟩
  · rw [div_nan (Or.inl n1), e1, div_nan (Or.inl hc)]
  · rcases canon_is y hy with ⟨n2, e2⟩ | ⟨n2, e2⟩
    · rw [div_nan (Or.inr n2), e2, div_nan (Or.inr hc)]
    · rw [e1, e2]
/-- Carlson's numbers: c, t, w, L'. -/
def cC (s0 : Nat → Nat) (j : Nat) : Nat := caf .quo (canonOf (sqrW (s0 (j + 1)))) (canonOf (sqrW (s0 j)))
def tC (v0 s0 : Nat → Nat) (j : Nat) : Nat := caf .quo (canonOf (v0 j)) (caf .mul (canonOf (sqrW (s0 j))) (canonOf (sqrW (s0 (j + 1)))))
def wC (f v0 : Nat → Nat) (n : Nat) : Nat → Nat → Nat
  | 0, _ => 0
  | d + 1, i => if n - 1 - d ≤ i then caf .add (wC f v0 n d i) (caf .mul (canonOf (v0 (n - 1 - d))) (canonOf (f (i * n + (n - 1 - d))))) else wC f v0 n d i
def oC (f v0 s0 : Nat → Nat) (n i j : Nat) : Nat := caf .sub (caf .mul (cC s0 j) (canonOf (f (i * n + j)))) (caf .mul (tC v0 s0 j) (wC f v0 n (n - 1 - j) i))
def carO (f v0 s0 : Nat → Nat) (n J i : Nat) (o : Nat → Nat) : Prop := ∀ a b, a < n → b < n → o (a * n + b) < 18446744073709551616 ∧ ((b ≤ a ∧ (J ≤ b ∨ (b + 1 = J ∧ a < i))) → canonOf (o (a * n + b)) = oC f v0 s0 n a b) ∧ (¬ (b ≤ a ∧ (J ≤ b ∨ (b + 1 = J ∧ a < i))) → o (a * n + b) = 0)
def carW (f v0 : Nat → Nat) (n d i : Nat) (u : Nat → Nat) : Prop := ∀ a, a < n → u a < 18446744073709551616 ∧ canonOf (u a) = if a < i then wC f v0 n (d + 1) a else wC f v0 n d a
theorem carO_zero {f v0 s0 : Nat → Nat} {n : Nat} : Hid (carO f v0 s0 n (n - 0) 0 (fun _ => 0)) := fun a b _ hb => ⟨by show (0 : Nat) < _; decide, fun h => by omega, fun _ => rfl⟩
theorem carW_zero {f v0 : Nat → Nat} {n : Nat} : Hid (carW f v0 n 0 0 (fun _ => 0)) := fun a _ => ⟨by show (0 : Nat) < _; decide, by rw [if_neg (Nat.not_lt_zero _)]; show canonOf 0 = 0; decide⟩
theorem carO_start {f v0 s0 : Nat → Nat} {n j : Nat} {o : Nat → Nat} (h : carO f v0 s0 n (j + 1) 0 o) : carO f v0 s0 n (j + 1) j o := fun a b ha hb => ⟨(h a b ha hb).1, fun q => (h a b ha hb).2.1 (by omega), fun q => (h a b ha hb).2.2 (by omega)⟩
theorem carO_end {f v0 s0 : Nat → Nat} {n j : Nat} {o : Nat → Nat} (h : carO f v0 s0 n (j + 1) n o) : carO f v0 s0 n j 0 o := fun a b ha hb => ⟨(h a b ha hb).1, fun q => (h a b ha hb).2.1 (by omega), fun q => (h a b ha hb).2.2 (by omega)⟩
theorem carO_step {f v0 s0 : Nat → Nat} {n j i z : Nat} {o : Nat → Nat} (h : carO f v0 s0 n (j + 1) i o) (hj : j ≤ i) (hi : i < n) (hz : z < 18446744073709551616) (hc : canonOf z = oC f v0 s0 n i j) : carO f v0 s0 n (j + 1) (i + 1) (fun t => if t = i * n + j then z else o t) := fun a b ha hb => by
  dsimp only
  by_cases e : a * n + b = i * n + j
  · obtain ⟨e1, e2⟩ := place_ne hb (by omega) e
    subst e1 e2
    rw [if_pos rfl]
    exact ⟨hz, fun _ => hc, fun q => absurd ⟨hj, Or.inr ⟨rfl, Nat.lt_succ_self _⟩⟩ q⟩
  · rw [if_neg e]
    have hne : ¬ (b = j ∧ a = i) := fun q => e (by rw [q.1, q.2])
    exact ⟨(h a b ha hb).1, fun q => (h a b ha hb).2.1 (by omega), fun q => (h a b ha hb).2.2 (by omega)⟩
theorem carW_start {f v0 : Nat → Nat} {n d j : Nat} {u : Nat → Nat} (hj : j = n - 1 - d) (h : carW f v0 n d 0 u) : carW f v0 n d j u := fun a ha => ⟨(h a ha).1, by
  have e := (h a ha).2
  rw [if_neg (Nat.not_lt_zero _)] at e
  by_cases q : a < j
  · rw [if_pos q, e]
    show _ = if n - 1 - d ≤ a then _ else _
    rw [if_neg (by omega)]
  · rw [if_neg q, e]⟩
theorem carW_end {f v0 : Nat → Nat} {n d : Nat} {u : Nat → Nat} (h : carW f v0 n d n u) : carW f v0 n (d + 1) 0 u := fun a ha => ⟨(h a ha).1, by
  have e := (h a ha).2
  rw [if_pos ha] at e
  rw [if_neg (Nat.not_lt_zero _), e]⟩
theorem carW_step {f v0 : Nat → Nat} {n d i z : Nat} {u : Nat → Nat} (h : carW f v0 n d i u) (hi : n - 1 - d ≤ i) (hz : z < 18446744073709551616) (hc : canonOf z = caf .add (wC f v0 n d i) (caf .mul (canonOf (v0 (n - 1 - d))) (canonOf (f (i * n + (n - 1 - d)))))) : carW f v0 n d (i + 1) (fun t => if t = i then z else u t) := fun a ha => by
  dsimp only
  by_cases e : a = i
  · subst e
    rw [if_pos rfl, if_pos (Nat.lt_succ_self _)]
    refine ⟨hz, ?_⟩
    rw [hc]
    show _ = if n - 1 - d ≤ a then _ else _
    rw [if_pos hi]
  · rw [if_neg e]
    refine ⟨(h a ha).1, ?_⟩
    rw [(h a ha).2]
    by_cases q : a < i
    · rw [if_pos q, if_pos (by omega)]
    · rw [if_neg q, if_neg (by omega)]
set_option maxRecDepth 8000 in
set_option maxHeartbeats 8000000 in
theorem carlson_any (n m ka kv ks M : Nat) (sa va aa : Option Addr) (f v0 s0 : Nat → Nat) (w : World) (hn : n ≤ 12) (hm : m = n * n) (hL : FnM w sa m ka f) (hv : FnM w va n kv v0) (hs : FnM w aa (n + 1) ks s0) (hq : ∀ j, j ≤ n → ∃ r, FloatKind.f64.format.sqrt (s0 j) = some r ∧ r < 18446744073709551616) :
    Calls Try.prog 61 #[.agg #[.float .f64 M, .slice va n kv, .slice aa (n + 1) ks], .agg #[.int .i64 n, .int .i64 n, .slice sa m ka]] w fun e w' => (∃ (g g2 : Nat) (o u : Nat → Nat), e = .returned (.tuple #[.agg #[.int .i64 n, .int .i64 n, .slice (some ⟨g, 0, none⟩) (n * n) (n * n)], .slice (some ⟨g2, 0, none⟩) n n]) ∧ w.heap.size ≤ g ∧ w.heap.size ≤ g2 ∧ FnM w' (some ⟨g, 0, none⟩) (n * n) (n * n) o ∧ FnM w' (some ⟨g2, 0, none⟩) n n u ∧ carO f v0 s0 n 0 0 o ∧ carW f v0 n n 0 u) ∧ Below w.heap.size w w' := by
  obtain ⟨N1, hN1⟩ : ∃ t, Hid (n + 1 = t) := ⟨_, rfl⟩
  rw [hN1.out] at hs ⊢
  have HM : Hid (m = n * n) := hm
  obtain ⟨NN, hNN⟩ : ∃ t, Hid (n * n = t) := ⟨_, rfl⟩
  rw [hNN.out]
  have HN := hid hn
  have hl : NN ≤ 144 := by rw [← hNN.out]; exact Nat.mul_le_mul hn hn
  have e1 : (n : Int) * (n : Int) = (NN : Int) := by rw [← hNN.out]; simp
  have wNN : IntKind.i64.wrap (NN : Int) = (NN : Int) := IntWalk.i64_in _ (by omega)
  have HL := hid hL
  have HV := hid hv
  have HS := hid hs
  have HQ : Hid (∀ j, j ≤ n → FloatKind.f64.format.sqrt (s0 j) = some (sqrW (s0 j)) ∧ sqrW (s0 j) < 18446744073709551616) := fun j hj => by
    obtain ⟨r, h1, h2⟩ := hq j hj
    unfold sqrW
    rw [h1]
    exact ⟨rfl, h2⟩
  have r1 := ar_run .add ok_a
  have r2 := ar_run .sub ok_s
  have r3 := ar_run .mul ok_m
  have r4 := qu_run
  have hst := fstoreM
  have hmk1 := run_make_row' (P := Try.prog) 32 28 (.float .f64 0) 8 Try.underlying32 info_fM rfl .i64 .i64 NN (by omega) (by omega)
  have hmk2 := run_make_row' (P := Try.prog) 32 28 (.float .f64 0) 8 Try.underlying32 info_fM rfl .i64 .i64 n (by omega) (by omega)
  obtain ⟨t1, t2, t3, t4, t5⟩ := three_b w (OBox M va n kv aa N1 ks) (MBox n n sa m ka) (MBox 0 0 none 0 0)
  obtain ⟨V, hV⟩ : ∃ V, Hid (((w.alloc (OBox M va n kv aa N1 ks)).alloc (MBox n n sa m ka)).alloc (MBox 0 0 none 0 0) = V) := ⟨_, rfl⟩
  rw [hV.out] at t1 t2 t3 t4 t5
  have hV' := hV.out
  unfold OBox MBox at hV'
  obtain ⟨p0, hp0⟩ : ∃ t, Hid (w.heap.size = t) := ⟨_, rfl⟩
  obtain ⟨p1, hp1⟩ : ∃ t, Hid (p0 + 1 = t) := ⟨_, rfl⟩
  obtain ⟨p2, hp2⟩ : ∃ t, Hid (p1 + 1 = t) := ⟨_, rfl⟩
  rw [hp0.out] at t1 t2 t3
  rw [hp1.out] at t2 t3
  rw [hp2.out] at t3
  obtain ⟨g, hg⟩ : ∃ t, Hid (V.heap.size = t) := ⟨_, rfl⟩
  obtain ⟨mb, hmb⟩ : ∃ t, Hid (g + 1 = t) := ⟨_, rfl⟩
  obtain ⟨g2, hg2⟩ : ∃ t, Hid (mb + 1 = t) := ⟨_, rfl⟩
  have HNE : Hid (p0 ≠ g ∧ p1 ≠ g ∧ p2 ≠ g ∧ mb ≠ g ∧ w.heap.size ≤ g ∧ p0 ≠ g2 ∧ p1 ≠ g2 ∧ p2 ≠ g2 ∧ mb ≠ g2 ∧ w.heap.size ≤ g2 ∧ g ≠ g2) := by
    have a0 := hp0.out; have a1 := hp1.out; have a2 := hp2.out; have a3 := hg.out; have a4 := hmb.out; have a5 := hg2.out
    show _ ∧ _ ∧ _ ∧ _ ∧ _ ∧ _ ∧ _ ∧ _ ∧ _ ∧ _ ∧ _
    omega
  have HV5 := hid t5
  have hFV : Hid (Below w.heap.size w V ∧ V.heap[p0]? = some (OBox M va n kv aa N1 ks) ∧ V.heap[p1]? = some (MBox n n sa m ka) ∧ V.heap[p2]? = some (MBox 0 0 none 0 0)) := ⟨t4, t1, t2, t3⟩
  obtain ⟨a0, a1, a2⟩ := ocells_of t1
  clear t1 t2 t3 t4 t5 hn hm hL hv hs hq hl
  have al1 : Below V.heap.size V (V.alloc (.cells (madeCells #[.float .f64 0] NN) 28)) := (Below.refl _ _).alloc (Nat.le_refl _) _
  have HR1 := hid (World.rowIs_made V (.float .f64 0) NN 28)
  obtain ⟨V1, hV1⟩ : ∃ t, Hid (V.alloc (.cells (madeCells #[.float .f64 0] NN) 28) = t) := ⟨_, rfl⟩
  rw [hV1.out] at al1 HR1
  have s1 : V1.heap.size = mb := by rw [← hV1.out, World.size_alloc]; have := hg.out; have := hmb.out; omega
  have al2 : Below V1.heap.size V1 (V1.alloc (MBox n n (some ⟨g, 0, none⟩) NN NN)) := (Below.refl _ _).alloc (Nat.le_refl _) _
  have HB2 := hid (nblkM V1 (MBox n n (some ⟨g, 0, none⟩) NN NN))
  obtain ⟨V2, hV2⟩ : ∃ t, Hid (V1.alloc (MBox n n (some ⟨g, 0, none⟩) NN NN) = t) := ⟨_, rfl⟩
  rw [hV2.out] at al2 HB2
  have s2 : V2.heap.size = g2 := by rw [← hV2.out, World.size_alloc]; have := hg2.out; omega
  have al3 : Below V2.heap.size V2 (V2.alloc (.cells (madeCells #[.float .f64 0] n) 28)) := (Below.refl _ _).alloc (Nat.le_refl _) _
  have HR3 := hid (World.rowIs_made V2 (.float .f64 0) n 28)
  obtain ⟨V3, hV3⟩ : ∃ t, Hid (V2.alloc (.cells (madeCells #[.float .f64 0] n) 28) = t) := ⟨_, rfl⟩
  rw [hV3.out] at al3 HR3
  rw [hg.out] at HR1
  rw [s1] at HB2
  rw [s2] at HR3
  have al23 := al2.trans (al3.mono al2.size)
  have al := al1.trans (al23.mono al1.size)
  have HF0 : Hid (Fr5 w V3 p0 p1 p2 mb (OBox M va n kv aa N1 ks) (MBox n n sa m ka) (MBox 0 0 none 0 0) (MBox n n (some ⟨g, 0, none⟩) NN NN)) := ⟨hFV.out.1.trans (al.mono hFV.out.1.size), blkM hFV.out.2.1 al, blkM hFV.out.2.2.1 al, blkM hFV.out.2.2.2 al, blkM HB2.out al3⟩
  have HG0 : Hid (V3.rowIs g 28 NN (fun _ => .float .f64 0)) := HR1.out.of_block (al23.block _ HR1.out.lt)
  have HW0 : Hid (V3.rowIs g2 28 n (fun _ => .float .f64 0)) := HR3.out
  have hV1' := hV1.out
  have hV2' := hV2.out
  have hV3' := hV3.out
  unfold MBox at hV2'
  have hg' := hg.out
  have hp0' := hp0.out
  have hp1' := hp1.out
  have hp2' := hp2.out
  have hs1 := s1
  have hs2 := s2
  clear al1 al2 al3 al23 al HR1 HB2 HR3 s1 s2
  go_enter Try.func61, Try.ntmps61
  go_wp2_with fail
  go_loopw [31] (fun iv wr => ∃ (d : Nat) (o u : Nat → Nat), d ≤ n ∧ iv = .int .i64 d ∧ Hid (wr.rowIs g 28 NN (fun t => .float .f64 (o t))) ∧ Hid (wr.rowIs g2 28 n (fun t => .float .f64 (u t))) ∧ Hid (carO f v0 s0 n (n - d) 0 o) ∧ Hid (carW f v0 n d 0 u) ∧ Hid (Fr5 w wr p0 p1 p2 mb (OBox M va n kv aa N1 ks) (MBox n n sa m ka) (MBox 0 0 none 0 0) (MBox n n (some ⟨g, 0, none⟩) NN NN))) (fun iv _ => n - (intOf iv).toNat)
  case atStart => exact ⟨0, fun _ => 0, fun _ => 0, Nat.zero_le _, rfl, HG0, HW0, carO_zero, carW_zero, HF0⟩
  case round =>
    obtain ⟨d, o, u, hd, rfl, HG, HW, HO, HU, HF⟩ := hrel
    by_cases hlt : d < n
    · obtain ⟨j, hj⟩ : ∃ j, n = d + 1 + j := ⟨n - 1 - d, by omega⟩
      have HJ := hid hj
      have hn12 := HN.out
      have ej : (n : Int) - 1 - (d : Int) = (j : Int) := by omega
      have w1 : IntKind.i64.wrap ((n : Int) - 1) = (n : Int) - 1 := IntWalk.i64_in _ (by omega)
      have w2 : IntKind.i64.wrap (j : Int) = (j : Int) := IntWalk.i64_in _ (by omega)
      have hdn : (d : Int) < (n : Int) := by omega
      have hd0 : (0 : Int) ≤ (d : Int) := by omega
      have wd : IntKind.i64.wrap ((d : Int) + 1) = (d : Int) + 1 := IntWalk.i64_in _ (by omega)
      obtain ⟨j1, hj1⟩ : ∃ t, Hid (j + 1 = t) := ⟨_, rfl⟩
      have wj : IntKind.i64.wrap ((j : Int) + 1) = (j1 : Int) := by rw [show (j1 : Int) = (j : Int) + 1 by have := hj1.out; omega]; exact IntWalk.i64_in _ (by omega)
      have b1 : (j1 : Int) < (N1 : Int) := by have := hj1.out; have := hN1.out; omega
      have b2 : (0 : Int) ≤ (j1 : Int) := by omega
      have b3 : (j : Int) < (N1 : Int) := by have := hN1.out; omega
      have b4 : (0 : Int) ≤ (j : Int) := by omega
      have b5 : (j : Int) < (n : Int) := by omega
      obtain ⟨bv, ov, hva, hbv, _, _, hcv⟩ : ∃ b off, va = some ⟨b, off, none⟩ ∧ b < w.heap.size ∧ n ≤ kv ∧ kv ≤ 9223372036854775807 ∧ ∀ j, j < n → w.cell? ⟨b, off + j, none⟩ = some (.float .f64 (v0 j)) ∧ v0 j < 18446744073709551616 := by
        rcases HV.out with ⟨_, h, _⟩ | h
        · omega
        · exact h
      obtain ⟨bs, os, hsa, hbs, _, _, hcs⟩ : ∃ b off, aa = some ⟨b, off, none⟩ ∧ b < w.heap.size ∧ N1 ≤ ks ∧ ks ≤ 9223372036854775807 ∧ ∀ j, j < N1 → w.cell? ⟨b, off + j, none⟩ = some (.float .f64 (s0 j)) ∧ s0 j < 18446744073709551616 := by
        rcases HS.out with ⟨_, h, _⟩ | h
        · have := hN1.out; omega
        · exact h
      obtain ⟨bl, ol, hla, hbl, _, _, hcl⟩ : ∃ b off, sa = some ⟨b, off, none⟩ ∧ b < w.heap.size ∧ m ≤ ka ∧ ka ≤ 9223372036854775807 ∧ ∀ j, j < m → w.cell? ⟨b, off + j, none⟩ = some (.float .f64 (f j)) ∧ f j < 18446744073709551616 := by
        rcases HL.out with ⟨_, h, _⟩ | h
        · have h1 := HM.out
          have : 0 < n * n := Nat.mul_pos (by omega) (by omega)
          omega
        · exact h
      subst hva
      subst hsa
      subst hla
      have HCL := hid hcl
      have HBL := hid hbl
      have k1 : j1 < N1 := by have := hj1.out; have := hN1.out; omega
      have k2 : j < N1 := by have := hN1.out; omega
      have k3 : j < n := by omega
      obtain ⟨q1, q2⟩ := HQ.out j (by omega)
      obtain ⟨q3, q4⟩ := HQ.out j1 (by have := hj1.out; omega)
      have HCC : Hid (caf .quo (canonOf (sqrW (s0 j1))) (canonOf (sqrW (s0 j))) = cC s0 j) := by show _ = _; rw [← hj1.out]; rfl
      have HTC : Hid (caf .quo (canonOf (v0 j)) (caf .mul (canonOf (sqrW (s0 j))) (canonOf (sqrW (s0 j1)))) = tC v0 s0 j) := by show _ = _; rw [← hj1.out]; rfl
      have hvc := hcv j k3
      have hyc := hcs j k2
      have hzc := hcs j1 k1
      obtain ⟨p, hp⟩ : ∃ t, Hid (sqrW (s0 j) = t) := ⟨_, rfl⟩
      obtain ⟨q, hq⟩ : ∃ t, Hid (sqrW (s0 j1) = t) := ⟨_, rfl⟩
      rw [hp.out] at q1 q2 HCC HTC
      rw [hq.out] at q3 q4 HCC HTC
      obtain ⟨v, hv⟩ : ∃ t, Hid (v0 j = t) := ⟨_, rfl⟩
      obtain ⟨y, hy⟩ : ∃ t, Hid (s0 j = t) := ⟨_, rfl⟩
      obtain ⟨z, hz⟩ : ∃ t, Hid (s0 j1 = t) := ⟨_, rfl⟩
      rw [hv.out] at hvc HTC
      rw [hy.out] at hyc q1
      rw [hz.out] at hzc q3
      have HSQ1 := hid (fun W => SqrtR y p W q1)
      have HSQ2 := hid (fun W => SqrtR z q W q3)
      have HPL : Hid (p < 18446744073709551616 ∧ q < 18446744073709551616 ∧ v < 18446744073709551616) := ⟨q2, q4, hvc.2⟩
      have HCE := hid (And.intro hvc.1 (And.intro hyc.1 hzc.1))
      have HBE := hid (And.intro hbv hbs)
      have HKS : Hid (∀ W, Hid (Fr5 w W p0 p1 p2 mb (OBox M (some ⟨bv, ov, none⟩) n kv (some ⟨bs, os, none⟩) N1 ks) (MBox n n (some ⟨bl, ol, none⟩) m ka) (MBox 0 0 none 0 0) (MBox n n (some ⟨g, 0, none⟩) NN NN)) → (W.cell? ⟨p0, 1, none⟩ = some (.slice (some ⟨bv, ov, none⟩) n kv) ∧ W.cell? ⟨p0, 2, none⟩ = some (.slice (some ⟨bs, os, none⟩) N1 ks) ∧ W.cell? ⟨bv, ov + j, none⟩ = some (.float .f64 v) ∧ W.cell? ⟨bs, os + j, none⟩ = some (.float .f64 y) ∧ W.cell? ⟨bs, os + j1, none⟩ = some (.float .f64 z)) ∧ Hid (Fr5 w W p0 p1 p2 mb (OBox M (some ⟨bv, ov, none⟩) n kv (some ⟨bs, os, none⟩) N1 ks) (MBox n n (some ⟨bl, ol, none⟩) m ka) (MBox 0 0 none 0 0) (MBox n n (some ⟨g, 0, none⟩) NN NN))) := fun W hW => by
        obtain ⟨a0, a1, a2⟩ := ocells_of hW.out.2.1
        exact ⟨⟨a1, a2, (hW.out.1.cell (p := ⟨bv, ov + j, none⟩) HBE.out.1).trans HCE.out.1, (hW.out.1.cell (p := ⟨bs, os + j, none⟩) HBE.out.2).trans HCE.out.2.1, (hW.out.1.cell (p := ⟨bs, os + j1, none⟩) HBE.out.2).trans HCE.out.2.2⟩, hW⟩
      have HQ0 : Hid (Fr5 w wr.drew p0 p1 p2 mb (OBox M (some ⟨bv, ov, none⟩) n kv (some ⟨bs, os, none⟩) N1 ks) (MBox n n (some ⟨bl, ol, none⟩) m ka) (MBox 0 0 none 0 0) (MBox n n (some ⟨g, 0, none⟩) NN NN)) := HF.out.drew
      clear hcv hcs hcl hbv hbs hbl hvc hyc hzc q1 q2 q3 q4 hmk1 hmk2 hj k1 k2 k3
      go_wp2_with fail
      refine wp_region_held_drew (S := fun W => (W.cell? ⟨p0, 1, none⟩ = some (.slice (some ⟨bv, ov, none⟩) n kv) ∧ W.cell? ⟨p0, 2, none⟩ = some (.slice (some ⟨bs, os, none⟩) N1 ks) ∧ W.cell? ⟨bv, ov + j, none⟩ = some (.float .f64 v) ∧ W.cell? ⟨bs, os + j, none⟩ = some (.float .f64 y) ∧ W.cell? ⟨bs, os + j1, none⟩ = some (.float .f64 z)) ∧ Hid (Fr5 w W p0 p1 p2 mb (OBox M (some ⟨bv, ov, none⟩) n kv (some ⟨bs, os, none⟩) N1 ks) (MBox n n (some ⟨bl, ol, none⟩) m ka) (MBox 0 0 none 0 0) (MBox n n (some ⟨g, 0, none⟩) NN NN))) (by kernel_rfl) (HKS.out _ HQ0) (fun hHeld => ?_)
      refine take_at 0 38 (.pointer (some ⟨p0, 1, none⟩)) rfl rfl (by kernel_rfl) (by kernel_rfl) (by kernel_rfl) (fun _ _ _ h => h) (Or.inl ⟨by rfl, fun w hSw => by (try dsimp only at hSw); go_simp⟩) (by assumption) ?_
      simp only [Act.put, List.setIfInBounds_toArray, List.set_cons_zero, List.set_cons_succ]
      refine take_at 1 39 (.slice (some ⟨bv, ov, none⟩) n kv) rfl rfl (by kernel_rfl) (by kernel_rfl) (by kernel_rfl) (fun _ _ _ h => h) (Or.inl ⟨by rfl, fun w hSw => by (try dsimp only at hSw); go_simp⟩) (by assumption) ?_
      simp only [Act.put, List.setIfInBounds_toArray, List.set_cons_zero, List.set_cons_succ]
      refine take_at 2 40 (.int .i64 j) rfl rfl (by kernel_rfl) (by kernel_rfl) (by kernel_rfl) (fun _ _ _ h => h) (Or.inl ⟨by rfl, fun w hSw => by (try dsimp only at hSw); go_simp⟩) (by assumption) ?_
      simp only [Act.put, List.setIfInBounds_toArray, List.set_cons_zero, List.set_cons_succ]
      refine take_at 3 41 (.pointer (some ⟨bv, ov + j, none⟩)) rfl rfl (by kernel_rfl) (by kernel_rfl) (by kernel_rfl) (fun _ _ _ h => h) (Or.inl ⟨by rfl, fun w hSw => by (try dsimp only at hSw); go_simp⟩) (by assumption) ?_
      simp only [Act.put, List.setIfInBounds_toArray, List.set_cons_zero, List.set_cons_succ]
      refine take_at 4 42 (.float .f64 v) rfl rfl (by kernel_rfl) (by kernel_rfl) (by kernel_rfl) (fun _ _ _ h => h) (Or.inl ⟨by rfl, fun w hSw => by (try dsimp only at hSw); go_simp⟩) (by assumption) ?_
      simp only [Act.put, List.setIfInBounds_toArray, List.set_cons_zero, List.set_cons_succ]
      refine take_at 5 43 (.pointer (some ⟨p0, 2, none⟩)) rfl rfl (by kernel_rfl) (by kernel_rfl) (by kernel_rfl) (fun _ _ _ h => h) (Or.inl ⟨by rfl, fun w hSw => by (try dsimp only at hSw); go_simp⟩) (by assumption) ?_
      simp only [Act.put, List.setIfInBounds_toArray, List.set_cons_zero, List.set_cons_succ]
      refine take_at 6 44 (.slice (some ⟨bs, os, none⟩) N1 ks) rfl rfl (by kernel_rfl) (by kernel_rfl) (by kernel_rfl) (fun _ _ _ h => h) (Or.inl ⟨by rfl, fun w hSw => by (try dsimp only at hSw); go_simp⟩) (by assumption) ?_
      simp only [Act.put, List.setIfInBounds_toArray, List.set_cons_zero, List.set_cons_succ]
      refine take_at 7 45 (.int .i64 j) rfl rfl (by kernel_rfl) (by kernel_rfl) (by kernel_rfl) (fun _ _ _ h => h) (Or.inl ⟨by rfl, fun w hSw => by (try dsimp only at hSw); go_simp⟩) (by assumption) ?_
      simp only [Act.put, List.setIfInBounds_toArray, List.set_cons_zero, List.set_cons_succ]
      refine take_at 8 46 (.pointer (some ⟨bs, os + j, none⟩)) rfl rfl (by kernel_rfl) (by kernel_rfl) (by kernel_rfl) (fun _ _ _ h => h) (Or.inl ⟨by rfl, fun w hSw => by (try dsimp only at hSw); go_simp⟩) (by assumption) ?_
      simp only [Act.put, List.setIfInBounds_toArray, List.set_cons_zero, List.set_cons_succ]
      refine take_at 9 47 (.float .f64 y) rfl rfl (by kernel_rfl) (by kernel_rfl) (by kernel_rfl) (fun _ _ _ h => h) (Or.inl ⟨by rfl, fun w hSw => by (try dsimp only at hSw); go_simp⟩) (by assumption) ?_
      simp only [Act.put, List.setIfInBounds_toArray, List.set_cons_zero, List.set_cons_succ]
      refine take_at 11 49 (.pointer (some ⟨p0, 2, none⟩)) rfl rfl (by kernel_rfl) (by kernel_rfl) (by kernel_rfl) (fun _ _ _ h => h) (Or.inl ⟨by rfl, fun w hSw => by (try dsimp only at hSw); go_simp⟩) (by assumption) ?_
      simp only [Act.put, List.setIfInBounds_toArray, List.set_cons_zero, List.set_cons_succ]
      refine take_at 12 50 (.slice (some ⟨bs, os, none⟩) N1 ks) rfl rfl (by kernel_rfl) (by kernel_rfl) (by kernel_rfl) (fun _ _ _ h => h) (Or.inl ⟨by rfl, fun w hSw => by (try dsimp only at hSw); go_simp⟩) (by assumption) ?_
      simp only [Act.put, List.setIfInBounds_toArray, List.set_cons_zero, List.set_cons_succ]
      refine take_at 13 51 (.int .i64 j) rfl rfl (by kernel_rfl) (by kernel_rfl) (by kernel_rfl) (fun _ _ _ h => h) (Or.inl ⟨by rfl, fun w hSw => by (try dsimp only at hSw); go_simp⟩) (by assumption) ?_
      simp only [Act.put, List.setIfInBounds_toArray, List.set_cons_zero, List.set_cons_succ]
      refine take_at 14 52 (.int .i64 j1) rfl rfl (by kernel_rfl) (by kernel_rfl) (by kernel_rfl) (fun _ _ _ h => h) (Or.inl ⟨by rfl, fun w hSw => by (try dsimp only at hSw); go_simp⟩) (by assumption) ?_
      simp only [Act.put, List.setIfInBounds_toArray, List.set_cons_zero, List.set_cons_succ]
      refine take_at 15 53 (.pointer (some ⟨bs, os + j1, none⟩)) rfl rfl (by kernel_rfl) (by kernel_rfl) (by kernel_rfl) (fun _ _ _ h => h) (Or.inl ⟨by rfl, fun w hSw => by (try dsimp only at hSw); go_simp⟩) (by assumption) ?_
      simp only [Act.put, List.setIfInBounds_toArray, List.set_cons_zero, List.set_cons_succ]
      refine take_at 16 54 (.float .f64 z) rfl rfl (by kernel_rfl) (by kernel_rfl) (by kernel_rfl) (fun _ _ _ h => h) (Or.inl ⟨by rfl, fun w hSw => by (try dsimp only at hSw); go_simp⟩) (by assumption) ?_
      simp only [Act.put, List.setIfInBounds_toArray, List.set_cons_zero, List.set_cons_succ]
      refine wpAnyH_ready (rs := [10]) (by kernel_rfl) (by simp) ?_
      refine AllReadyH.cons (o := _) rfl (fun K hK => ?_) AllReadyH.nil
      go_simp
      refine (HSQ1.out _).mono ?_
      rintro e ww ⟨rfl, hw⟩
      rw [hw]
      clear hw
      go_wp2_with fail
      refine hK.out _ _ (HKS.out _ HQ0) (fun hHeld1 => ?_)
      clear hK K
      try simp only [Act.put, List.setIfInBounds_toArray, List.set_cons_zero, List.set_cons_succ]
      refine wpAnyH_ready (rs := [17]) (by kernel_rfl) (by simp) ?_
      refine AllReadyH.cons (o := _) rfl (fun K hK => ?_) AllReadyH.nil
      go_simp
      refine (HSQ2.out _).mono ?_
      rintro e ww ⟨rfl, hw⟩
      rw [hw]
      clear hw
      go_wp2_with fail
      refine hK.out _ _ (HKS.out _ HQ0) (fun hHeld2 => ?_)
      clear hK K
      try simp only [Act.put, List.setIfInBounds_toArray, List.set_cons_zero, List.set_cons_succ]
      refine take_at 18 11 (.float .f64 v) rfl rfl (by kernel_rfl) (by kernel_rfl) (by kernel_rfl) (fun _ _ _ h => h) (Or.inl ⟨by rfl, fun w hSw => by (try dsimp only at hSw); go_simp⟩) (by assumption) ?_
      simp only [Act.put, List.setIfInBounds_toArray, List.set_cons_zero, List.set_cons_succ]
      refine take_at 19 12 (.float .f64 p) rfl rfl (by kernel_rfl) (by kernel_rfl) (by kernel_rfl) (fun _ _ _ h => h) (Or.inl ⟨by rfl, fun w hSw => by (try dsimp only at hSw); go_simp⟩) (by assumption) ?_
      simp only [Act.put, List.setIfInBounds_toArray, List.set_cons_zero, List.set_cons_succ]
      refine take_at 20 13 (.float .f64 q) rfl rfl (by kernel_rfl) (by kernel_rfl) (by kernel_rfl) (fun _ _ _ h => h) (Or.inl ⟨by rfl, fun w hSw => by (try dsimp only at hSw); go_simp⟩) (by assumption) ?_
      simp only [Act.put, List.setIfInBounds_toArray, List.set_cons_zero, List.set_cons_succ]
      refine wpAnyH_done (by kernel_rfl) ?_ _
      have f1 : Hid (Fr5 w (quG q p wr.drew) p0 p1 p2 mb (OBox M (some ⟨bv, ov, none⟩) n kv (some ⟨bs, os, none⟩) N1 ks) (MBox n n (some ⟨bl, ol, none⟩) m ka) (MBox 0 0 none 0 0) (MBox n n (some ⟨g, 0, none⟩) NN NN)) := HQ0.out.call (bl_qu (Below.refl _ _) q p)
      have g1 : Hid ((quG q p wr.drew).rowIs g 28 NN (fun t => .float .f64 (o t))) := HG.out.of_block (by rw [quG_heap]; rfl)
      have h1 : Hid ((quG q p wr.drew).rowIs g2 28 n (fun t => .float .f64 (u t))) := HW.out.of_block (by rw [quG_heap]; rfl)
      have HC : Hid (canonOf (quF q p wr.drew) = cC s0 j ∧ quF q p wr.drew < 18446744073709551616) := ⟨by rw [canon_qu, quo_canon q p HPL.out.2.1 HPL.out.1]; exact HCC.out, quF_lt _ _ _⟩
      obtain ⟨C, hC⟩ : ∃ t, Hid (quF q p wr.drew = t) := ⟨_, rfl⟩
      obtain ⟨u1, hu1⟩ : ∃ t, Hid (quG q p wr.drew = t) := ⟨_, rfl⟩
      rw [hC.out] at HC
      rw [hu1.out] at f1 g1 h1
      have hC' := hC.out
      have hu1' := hu1.out
      have f2 : Hid (Fr5 w (arG .mul p q u1) p0 p1 p2 mb (OBox M (some ⟨bv, ov, none⟩) n kv (some ⟨bs, os, none⟩) N1 ks) (MBox n n (some ⟨bl, ol, none⟩) m ka) (MBox 0 0 none 0 0) (MBox n n (some ⟨g, 0, none⟩) NN NN)) := f1.out.call (bl_ar (Below.refl _ _) .mul p q)
      have g2w : Hid ((arG .mul p q u1).rowIs g 28 NN (fun t => .float .f64 (o t))) := g1.out.of_block (by rw [arG_heap])
      have h2 : Hid ((arG .mul p q u1).rowIs g2 28 n (fun t => .float .f64 (u t))) := h1.out.of_block (by rw [arG_heap])
      have HP2 : Hid (canonOf (arF .mul p q u1) = caf .mul (canonOf p) (canonOf q) ∧ arF .mul p q u1 < 18446744073709551616) := ⟨canon_ar ok_m _ _ _ HPL.out.1 HPL.out.2.1, arF_lt ok_m _ _ _⟩
      obtain ⟨pq, hpq⟩ : ∃ t, Hid (arF .mul p q u1 = t) := ⟨_, rfl⟩
      obtain ⟨u2, hu2⟩ : ∃ t, Hid (arG .mul p q u1 = t) := ⟨_, rfl⟩
      rw [hpq.out] at HP2
      rw [hu2.out] at f2 g2w h2
      have hpq' := hpq.out
      have hu2' := hu2.out
      have f3 : Hid (Fr5 w (quG v pq u2) p0 p1 p2 mb (OBox M (some ⟨bv, ov, none⟩) n kv (some ⟨bs, os, none⟩) N1 ks) (MBox n n (some ⟨bl, ol, none⟩) m ka) (MBox 0 0 none 0 0) (MBox n n (some ⟨g, 0, none⟩) NN NN)) := f2.out.call (bl_qu (Below.refl _ _) v pq)
      have g3 : Hid ((quG v pq u2).rowIs g 28 NN (fun t => .float .f64 (o t))) := g2w.out.of_block (by rw [quG_heap])
      have h3 : Hid ((quG v pq u2).rowIs g2 28 n (fun t => .float .f64 (u t))) := h2.out.of_block (by rw [quG_heap])
      have HT : Hid (canonOf (quF v pq u2) = tC v0 s0 j ∧ quF v pq u2 < 18446744073709551616) := ⟨by rw [canon_qu, quo_canon v pq HPL.out.2.2 HP2.out.2, HP2.out.1]; exact HTC.out, quF_lt _ _ _⟩
      obtain ⟨T, hT⟩ : ∃ t, Hid (quF v pq u2 = t) := ⟨_, rfl⟩
      obtain ⟨u3, hu3⟩ : ∃ t, Hid (quG v pq u2 = t) := ⟨_, rfl⟩
      rw [hT.out] at HT
      rw [hu3.out] at f3 g3 h3
      have hT' := hT.out
      have hu3' := hu3.out
      clear f1 g1 h1 f2 g2w h2
      go_wp2_with fail
      go_loopw [16] (fun iv wr2 => ∃ (i : Nat) (o2 x2 : Nat → Nat), j ≤ i ∧ i ≤ n ∧ iv = .int .i64 i ∧ Hid (wr2.rowIs g 28 NN (fun t => .float .f64 (o2 t))) ∧ Hid (wr2.rowIs g2 28 n (fun t => .float .f64 (x2 t))) ∧ Hid (carO f v0 s0 n (j + 1) i o2) ∧ Hid (carW f v0 n d i x2) ∧ Hid (Fr5 w wr2 p0 p1 p2 mb (OBox M (some ⟨bv, ov, none⟩) n kv (some ⟨bs, os, none⟩) N1 ks) (MBox n n (some ⟨bl, ol, none⟩) m ka) (MBox 0 0 none 0 0) (MBox n n (some ⟨g, 0, none⟩) NN NN))) (fun iv _ => n - (intOf iv).toNat)
      case atStart =>
        refine ⟨j, o, u, Nat.le_refl _, by have := HJ.out; omega, rfl, g3, h3, carO_start ?_, carW_start (by have := HJ.out; omega) HU.out, f3⟩
        have := HO.out
        rw [show n - d = j + 1 by have := HJ.out; omega] at this
        exact this
      case round =>
        obtain ⟨i, o2, x2, hji, hin, rfl, HG2, HW2, HO2, HU2, HF2⟩ := hrel
        by_cases hit : i < n
        · have HI := hid (And.intro hji hit)
          have hjn := HJ.out
          have hiI : (i : Int) < (n : Int) := by omega
          have hi0 : (0 : Int) ≤ (i : Int) := by omega
          have wi1 : IntKind.i64.wrap ((i : Int) + 1) = (i : Int) + 1 := IntWalk.i64_in _ (by omega)
          have hkp : i * n + j < NN := by rw [← hNN.out]; exact place_lt hit (by omega)
          have hkm : i * n + j < m := by rw [HM.out, hNN.out]; exact hkp
          have hk2 : NN ≤ 144 := by rw [← hNN.out]; exact Nat.mul_le_mul hn12 hn12
          have hx := HCL.out _ hkm
          have e2 : (i : Int) * (n : Int) = ((i * n : Nat) : Int) := by simp
          obtain ⟨pk, hpk⟩ : ∃ t, Hid (i * n = t) := ⟨_, rfl⟩
          have HXC : Hid (∀ t, i * n + t = pk + t) := fun t => by rw [hpk.out]
          rw [hpk.out] at e2 hkp hkm hx
          obtain ⟨k, hk⟩ : ∃ t, Hid (pk + j = t) := ⟨_, rfl⟩
          have e3 : (pk : Int) + (j : Int) = (k : Int) := by have := hk.out; omega
          rw [hk.out] at hkp hkm hx
          have wp : IntKind.i64.wrap (pk : Int) = (pk : Int) := IntWalk.i64_in _ (by have := hk.out; omega)
          have wk : IntKind.i64.wrap (k : Int) = (k : Int) := IntWalk.i64_in _ (by omega)
          have kI : (k : Int) < (NN : Int) := by omega
          have kM : (k : Int) < (m : Int) := by omega
          have k0 : (0 : Int) ≤ (k : Int) := by omega
          have hxc := (HF2.out.1.cell (p := ⟨bl, ol + k, none⟩) HBL.out).trans hx.1
          obtain ⟨X, hX⟩ : ∃ t, Hid (f k = t) := ⟨_, rfl⟩
          rw [hX.out] at hxc
          have HXL : Hid (X < 18446744073709551616) := by have := hx.2; rw [hX.out] at this; exact this
          obtain ⟨l0, l1, l2⟩ := mcells_of HF2.out.2.2.1
          have cw := HW2.out.cell hit
          have hul := HU2.out i hit
          rw [if_neg (Nat.lt_irrefl i)] at hul
          obtain ⟨wi, hwi⟩ : ∃ t, Hid (x2 i = t) := ⟨_, rfl⟩
          rw [hwi.out] at cw hul
          have HUL := hid hul
          have HLP0 : Hid ((Fr5 w wr.drew p0 p1 p2 mb (OBox M (some ⟨bv, ov, none⟩) n kv (some ⟨bs, os, none⟩) N1 ks) (MBox n n (some ⟨bl, ol, none⟩) m ka) (MBox 0 0 none 0 0) (MBox n n (some ⟨g, 0, none⟩) NN NN)) ∧ wr.drew.cell? ⟨g2, i, none⟩ = some (.float .f64 wi)) := ⟨HF2.out.drew, cw⟩
          have HKS2 : Hid (∀ W, Hid ((Fr5 w W p0 p1 p2 mb (OBox M (some ⟨bv, ov, none⟩) n kv (some ⟨bs, os, none⟩) N1 ks) (MBox n n (some ⟨bl, ol, none⟩) m ka) (MBox 0 0 none 0 0) (MBox n n (some ⟨g, 0, none⟩) NN NN)) ∧ W.cell? ⟨g2, i, none⟩ = some (.float .f64 wi)) → (W.cell? ⟨mb, 2, none⟩ = some (.slice (some ⟨g, 0, none⟩) NN NN) ∧ W.cell? ⟨g2, i, none⟩ = some (.float .f64 wi)) ∧ Hid ((Fr5 w W p0 p1 p2 mb (OBox M (some ⟨bv, ov, none⟩) n kv (some ⟨bs, os, none⟩) N1 ks) (MBox n n (some ⟨bl, ol, none⟩) m ka) (MBox 0 0 none 0 0) (MBox n n (some ⟨g, 0, none⟩) NN NN)) ∧ W.cell? ⟨g2, i, none⟩ = some (.float .f64 wi))) := fun W hW => by
            obtain ⟨m0, m1, m2⟩ := mcells_of hW.out.1.2.2.2.2
            exact ⟨⟨m2, hW.out.2⟩, hW⟩
          have HAR : Hid (∀ op x y W, ((Fr5 w W p0 p1 p2 mb (OBox M (some ⟨bv, ov, none⟩) n kv (some ⟨bs, os, none⟩) N1 ks) (MBox n n (some ⟨bl, ol, none⟩) m ka) (MBox 0 0 none 0 0) (MBox n n (some ⟨g, 0, none⟩) NN NN)) ∧ W.cell? ⟨g2, i, none⟩ = some (.float .f64 wi)) → (Fr5 w (arG op x y W) p0 p1 p2 mb (OBox M (some ⟨bv, ov, none⟩) n kv (some ⟨bs, os, none⟩) N1 ks) (MBox n n (some ⟨bl, ol, none⟩) m ka) (MBox 0 0 none 0 0) (MBox n n (some ⟨g, 0, none⟩) NN NN)) ∧ (arG op x y W).cell? ⟨g2, i, none⟩ = some (.float .f64 wi)) := fun op x y W h => ⟨h.1.call (bl_ar (Below.refl _ _) op x y), (World.cell?_of_block (by rw [arG_heap])).trans h.2⟩
          have HKK : Hid (k < NN ∧ k = i * n + j) := ⟨hkp, by rw [hpk.out]; exact hk.out.symm⟩
          have HGD : Hid (wr.drew.rowIs g 28 NN (fun t => .float .f64 (o2 t))) := HG2.out.of_block rfl
          have HWD : Hid (wr.drew.rowIs g2 28 n (fun t => .float .f64 (x2 t))) := HW2.out.of_block rfl
          have HGA : Hid (∀ op x y W, (W.rowIs g 28 NN (fun t => .float .f64 (o2 t))) → (arG op x y W).rowIs g 28 NN (fun t => .float .f64 (o2 t))) := fun op x y W h => h.of_block (by rw [arG_heap])
          have HWA : Hid (∀ op x y W, (W.rowIs g2 28 n (fun t => .float .f64 (x2 t))) → (arG op x y W).rowIs g2 28 n (fun t => .float .f64 (x2 t))) := fun op x y W h => h.of_block (by rw [arG_heap])
          clear hx hul hkp hkm hk2 hjn HG2 hji hin hit
          go_wp2_with fail
          refine wp_region_held_drew (S := fun W => (W.cell? ⟨mb, 2, none⟩ = some (.slice (some ⟨g, 0, none⟩) NN NN) ∧ W.cell? ⟨g2, i, none⟩ = some (.float .f64 wi)) ∧ Hid ((Fr5 w W p0 p1 p2 mb (OBox M (some ⟨bv, ov, none⟩) n kv (some ⟨bs, os, none⟩) N1 ks) (MBox n n (some ⟨bl, ol, none⟩) m ka) (MBox 0 0 none 0 0) (MBox n n (some ⟨g, 0, none⟩) NN NN)) ∧ W.cell? ⟨g2, i, none⟩ = some (.float .f64 wi))) (by kernel_rfl) (HKS2.out _ HLP0) (fun hHeld => ?_)
          refine take_at 0 79 (.pointer (some ⟨mb, 2, none⟩)) rfl rfl (by kernel_rfl) (by kernel_rfl) (by kernel_rfl) (fun _ _ _ h => h) (Or.inl ⟨by rfl, fun w hSw => by (try dsimp only at hSw); go_simp⟩) (by assumption) ?_
          simp only [Act.put, List.setIfInBounds_toArray, List.set_cons_zero, List.set_cons_succ]
          refine take_at 1 80 (.slice (some ⟨g, 0, none⟩) NN NN) rfl rfl (by kernel_rfl) (by kernel_rfl) (by kernel_rfl) (fun _ _ _ h => h) (Or.inl ⟨by rfl, fun w hSw => by (try dsimp only at hSw); go_simp⟩) (by assumption) ?_
          simp only [Act.put, List.setIfInBounds_toArray, List.set_cons_zero, List.set_cons_succ]
          refine take_at 2 81 (.int .i64 i) rfl rfl (by kernel_rfl) (by kernel_rfl) (by kernel_rfl) (fun _ _ _ h => h) (Or.inl ⟨by rfl, fun w hSw => by (try dsimp only at hSw); go_simp⟩) (by assumption) ?_
          simp only [Act.put, List.setIfInBounds_toArray, List.set_cons_zero, List.set_cons_succ]
          refine take_at 3 82 (.int .i64 n) rfl rfl (by kernel_rfl) (by kernel_rfl) (by kernel_rfl) (fun _ _ _ h => h) (Or.inl ⟨by rfl, fun w hSw => by (try dsimp only at hSw); go_simp⟩) (by assumption) ?_
          simp only [Act.put, List.setIfInBounds_toArray, List.set_cons_zero, List.set_cons_succ]
          refine take_at 4 83 (.int .i64 pk) rfl rfl (by kernel_rfl) (by kernel_rfl) (by kernel_rfl) (fun _ _ _ h => h) (Or.inl ⟨by rfl, fun w hSw => by (try dsimp only at hSw); go_simp⟩) (by assumption) ?_
          simp only [Act.put, List.setIfInBounds_toArray, List.set_cons_zero, List.set_cons_succ]
          refine take_at 5 84 (.int .i64 j) rfl rfl (by kernel_rfl) (by kernel_rfl) (by kernel_rfl) (fun _ _ _ h => h) (Or.inl ⟨by rfl, fun w hSw => by (try dsimp only at hSw); go_simp⟩) (by assumption) ?_
          simp only [Act.put, List.setIfInBounds_toArray, List.set_cons_zero, List.set_cons_succ]
          refine take_at 6 85 (.int .i64 k) rfl rfl (by kernel_rfl) (by kernel_rfl) (by kernel_rfl) (fun _ _ _ h => h) (Or.inl ⟨by rfl, fun w hSw => by (try dsimp only at hSw); go_simp⟩) (by assumption) ?_
          simp only [Act.put, List.setIfInBounds_toArray, List.set_cons_zero, List.set_cons_succ]
          refine take_at 7 86 (.float .f64 C) rfl rfl (by kernel_rfl) (by kernel_rfl) (by kernel_rfl) (fun _ _ _ h => h) (Or.inl ⟨by rfl, fun w hSw => by (try dsimp only at hSw); go_simp⟩) (by assumption) ?_
          simp only [Act.put, List.setIfInBounds_toArray, List.set_cons_zero, List.set_cons_succ]
          refine take_at 8 87 (.float .f64 X) rfl rfl (by kernel_rfl) (by kernel_rfl) (by kernel_rfl) (fun _ _ _ h => h) (Or.inl ⟨by rfl, fun w hSw => by (try dsimp only at hSw); go_simp⟩) (by assumption) ?_
          simp only [Act.put, List.setIfInBounds_toArray, List.set_cons_zero, List.set_cons_succ]
          refine take_at 10 89 (.float .f64 T) rfl rfl (by kernel_rfl) (by kernel_rfl) (by kernel_rfl) (fun _ _ _ h => h) (Or.inl ⟨by rfl, fun w hSw => by (try dsimp only at hSw); go_simp⟩) (by assumption) ?_
          simp only [Act.put, List.setIfInBounds_toArray, List.set_cons_zero, List.set_cons_succ]
          refine take_at 11 90 (.slice (some ⟨g2, 0, none⟩) n n) rfl rfl (by kernel_rfl) (by kernel_rfl) (by kernel_rfl) (fun _ _ _ h => h) (Or.inl ⟨by rfl, fun w hSw => by (try dsimp only at hSw); go_simp⟩) (by assumption) ?_
          simp only [Act.put, List.setIfInBounds_toArray, List.set_cons_zero, List.set_cons_succ]
          refine take_at 12 91 (.int .i64 i) rfl rfl (by kernel_rfl) (by kernel_rfl) (by kernel_rfl) (fun _ _ _ h => h) (Or.inl ⟨by rfl, fun w hSw => by (try dsimp only at hSw); go_simp⟩) (by assumption) ?_
          simp only [Act.put, List.setIfInBounds_toArray, List.set_cons_zero, List.set_cons_succ]
          refine take_at 13 92 (.pointer (some ⟨g2, i, none⟩)) rfl rfl (by kernel_rfl) (by kernel_rfl) (by kernel_rfl) (fun _ _ _ h => h) (Or.inl ⟨by rfl, fun w hSw => by (try dsimp only at hSw); go_simp⟩) (by assumption) ?_
          simp only [Act.put, List.setIfInBounds_toArray, List.set_cons_zero, List.set_cons_succ]
          refine take_at 14 93 (.float .f64 wi) rfl rfl (by kernel_rfl) (by kernel_rfl) (by kernel_rfl) (fun _ _ _ h => h) (Or.inl ⟨by rfl, fun w hSw => by (try dsimp only at hSw); go_simp⟩) (by assumption) ?_
          simp only [Act.put, List.setIfInBounds_toArray, List.set_cons_zero, List.set_cons_succ]
          refine wpAnyH_ready (rs := [9, 15]) (by kernel_rfl) (by simp) ?_
          refine AllReadyH.cons (o := _) rfl (fun K hK => ?_) (AllReadyH.cons (o := _) rfl (fun K hK => ?_) AllReadyH.nil)
          · have q1 : Hid ((Fr5 w (arG .mul C X wr.drew) p0 p1 p2 mb (OBox M (some ⟨bv, ov, none⟩) n kv (some ⟨bs, os, none⟩) N1 ks) (MBox n n (some ⟨bl, ol, none⟩) m ka) (MBox 0 0 none 0 0) (MBox n n (some ⟨g, 0, none⟩) NN NN)) ∧ (arG .mul C X wr.drew).cell? ⟨g2, i, none⟩ = some (.float .f64 wi)) := HAR.out .mul C X _ HLP0.out
            have q2 : Hid ((Fr5 w (arG .mul T wi (arG .mul C X wr.drew)) p0 p1 p2 mb (OBox M (some ⟨bv, ov, none⟩) n kv (some ⟨bs, os, none⟩) N1 ks) (MBox n n (some ⟨bl, ol, none⟩) m ka) (MBox 0 0 none 0 0) (MBox n n (some ⟨g, 0, none⟩) NN NN)) ∧ (arG .mul T wi (arG .mul C X wr.drew)).cell? ⟨g2, i, none⟩ = some (.float .f64 wi)) := HAR.out .mul T wi _ q1.out
            have q3 : Hid ((Fr5 w (arG .sub (arF .mul C X wr.drew) (arF .mul T wi (arG .mul C X wr.drew)) (arG .mul T wi (arG .mul C X wr.drew))) p0 p1 p2 mb (OBox M (some ⟨bv, ov, none⟩) n kv (some ⟨bs, os, none⟩) N1 ks) (MBox n n (some ⟨bl, ol, none⟩) m ka) (MBox 0 0 none 0 0) (MBox n n (some ⟨g, 0, none⟩) NN NN)) ∧ (arG .sub (arF .mul C X wr.drew) (arF .mul T wi (arG .mul C X wr.drew)) (arG .mul T wi (arG .mul C X wr.drew))).cell? ⟨g2, i, none⟩ = some (.float .f64 wi)) := HAR.out .sub (arF .mul C X wr.drew) (arF .mul T wi (arG .mul C X wr.drew)) _ q2.out
            have HGZ : Hid ((arG .sub (arF .mul C X wr.drew) (arF .mul T wi (arG .mul C X wr.drew)) (arG .mul T wi (arG .mul C X wr.drew))).rowIs g 28 NN (fun t => .float .f64 (o2 t))) := HGA.out _ _ _ _ (HGA.out _ _ _ _ (HGA.out _ _ _ _ HGD.out))
            have HWZ : Hid ((arG .sub (arF .mul C X wr.drew) (arF .mul T wi (arG .mul C X wr.drew)) (arG .mul T wi (arG .mul C X wr.drew))).rowIs g2 28 n (fun t => .float .f64 (x2 t))) := HWA.out _ _ _ _ (HWA.out _ _ _ _ (HWA.out _ _ _ _ HWD.out))
            have HZC : Hid (canonOf (arF .sub (arF .mul C X wr.drew) (arF .mul T wi (arG .mul C X wr.drew)) (arG .mul T wi (arG .mul C X wr.drew))) = oC f v0 s0 n i j ∧ (arF .sub (arF .mul C X wr.drew) (arF .mul T wi (arG .mul C X wr.drew)) (arG .mul T wi (arG .mul C X wr.drew))) < 18446744073709551616) := ⟨by rw [canon_ar ok_s _ _ _ (arF_lt ok_m _ _ _) (arF_lt ok_m _ _ _), canon_ar ok_m _ _ _ HC.out.2 HXL.out, canon_ar ok_m _ _ _ HT.out.2 HUL.out.1, HC.out.1, HT.out.1, HUL.out.2]; unfold oC; rw [← HKK.out.2, hX.out, show n - 1 - j = d by have := HJ.out; omega], arF_lt ok_s _ _ _⟩
            go_simp
            go_wp2_with fail
            refine hK.out _ _ (HKS2.out _ q1) (fun hHeld1 => ?_)
            clear hK K
            try simp only [Act.put, List.setIfInBounds_toArray, List.set_cons_zero, List.set_cons_succ]
            refine wpAnyH_ready (rs := [15]) (by kernel_rfl) (by simp) ?_
            refine AllReadyH.cons (o := _) rfl (fun K hK => ?_) AllReadyH.nil
            go_simp
            go_wp2_with fail
            refine hK.out _ _ (HKS2.out _ q2) (fun hHeld2 => ?_)
            clear hK K
            try simp only [Act.put, List.setIfInBounds_toArray, List.set_cons_zero, List.set_cons_succ]
            refine wpAnyH_ready (rs := [16]) (by kernel_rfl) (by simp) ?_
            refine AllReadyH.cons (o := _) rfl (fun K hK => ?_) AllReadyH.nil
            go_simp
            go_wp2_with fail
            refine hK.out _ _ (HKS2.out _ q3) (fun hHeld3 => ?_)
            clear hK K
            try simp only [Act.put, List.setIfInBounds_toArray, List.set_cons_zero, List.set_cons_succ]
            refine take_at 17 96 (.pointer (some ⟨g, k, none⟩)) rfl rfl (by kernel_rfl) (by kernel_rfl) (by kernel_rfl) (fun _ _ _ h => h) (Or.inl ⟨by rfl, fun w hSw => by (try dsimp only at hSw); go_simp⟩) (by assumption) ?_
            simp only [Act.put, List.setIfInBounds_toArray, List.set_cons_zero, List.set_cons_succ]
            obtain ⟨Z, hZ⟩ : ∃ t, Hid ((arF .sub (arF .mul C X wr.drew) (arF .mul T wi (arG .mul C X wr.drew)) (arG .mul T wi (arG .mul C X wr.drew))) = t) := ⟨_, rfl⟩
            obtain ⟨A3, hA3⟩ : ∃ t, Hid ((arG .sub (arF .mul C X wr.drew) (arF .mul T wi (arG .mul C X wr.drew)) (arG .mul T wi (arG .mul C X wr.drew))) = t) := ⟨_, rfl⟩
            rw [hZ.out] at HZC
            rw [hA3.out] at q3 HGZ HWZ
            rw [hZ.out, hA3.out]
            have cg := HGZ.out.cell HKK.out.1
            have fg := HGZ.out.frozen k
            have HGS := hid (HGZ.out.set k (.float .f64 Z))
            have HWS := hid (HWZ.out.setOther (a := ⟨g, k, none⟩) (fun h => HNE.out.2.2.2.2.2.2.2.2.2.2 h.symm) (.float .f64 Z))
            have q4 : Hid ((Fr5 w (A3.setCell ⟨g, k, none⟩ (.float .f64 Z)) p0 p1 p2 mb (OBox M (some ⟨bv, ov, none⟩) n kv (some ⟨bs, os, none⟩) N1 ks) (MBox n n (some ⟨bl, ol, none⟩) m ka) (MBox 0 0 none 0 0) (MBox n n (some ⟨g, 0, none⟩) NN NN)) ∧ (A3.setCell ⟨g, k, none⟩ (.float .f64 Z)).cell? ⟨g2, i, none⟩ = some (.float .f64 wi)) := ⟨q3.out.1.set HNE.out.1 HNE.out.2.1 HNE.out.2.2.1 HNE.out.2.2.2.1 HNE.out.2.2.2.2.1 _, by have := HWS.out.cell HI.out.2; rw [hwi.out] at this; exact this⟩
            refine wpAnyH_ready (rs := [18]) (by kernel_rfl) (by simp) ?_
            refine AllReadyH.cons (o := _) rfl (fun K hK => ?_) AllReadyH.nil
            go_simp
            go_wp2_with fail
            refine hK.out _ _ (HKS2.out _ q4) (fun hHeld4 => ?_)
            clear hK K
            try simp only [Act.put, List.setIfInBounds_toArray, List.set_cons_zero, List.set_cons_succ]
            refine wpAnyH_done (by kernel_rfl) ?_ _
            obtain ⟨U, hU⟩ : ∃ t, Hid (A3.setCell ⟨g, k, none⟩ (.float .f64 Z) = t) := ⟨_, rfl⟩
            rw [hU.out] at q4 HGS HWS
            have hU' := hU.out
            rw [hU.out]
            have q5 := hid (HAR.out .mul v X U q4.out)
            have HGU : Hid ((arG .mul v X U).rowIs g 28 NN (fun t => if t = k then .float .f64 Z else .float .f64 (o2 t))) := HGS.out.of_block (by rw [arG_heap])
            have HWU := hid (HWA.out .mul v X U HWS.out)
            have HY1 : Hid (canonOf (arF .mul v X U) = caf .mul (canonOf v) (canonOf X) ∧ arF .mul v X U < 18446744073709551616) := ⟨canon_ar ok_m _ _ _ HPL.out.2.2 HXL.out, arF_lt ok_m _ _ _⟩
            obtain ⟨y1, hy1⟩ : ∃ t, Hid (arF .mul v X U = t) := ⟨_, rfl⟩
            obtain ⟨U1, hU1⟩ : ∃ t, Hid (arG .mul v X U = t) := ⟨_, rfl⟩
            rw [hy1.out] at HY1
            rw [hU1.out] at q5 HGU HWU
            have hy1' := hy1.out
            have hU1' := hU1.out
            have q6 := hid (HAR.out .add wi y1 U1 q5.out)
            have HGX : Hid ((arG .add wi y1 U1).rowIs g 28 NN (fun t => if t = k then .float .f64 Z else .float .f64 (o2 t))) := HGU.out.of_block (by rw [arG_heap])
            have HWX := hid (HWA.out .add wi y1 U1 HWU.out)
            have HY2 : Hid (canonOf (arF .add wi y1 U1) = caf .add (wC f v0 n d i) (caf .mul (canonOf (v0 (n - 1 - d))) (canonOf (f (i * n + (n - 1 - d))))) ∧ arF .add wi y1 U1 < 18446744073709551616) := ⟨by rw [canon_ar ok_a _ _ _ HUL.out.1 HY1.out.2, HY1.out.1, HUL.out.2, show n - 1 - d = j by have := HJ.out; omega, ← HKK.out.2, hX.out, hv.out], arF_lt ok_a _ _ _⟩
            obtain ⟨y2, hy2⟩ : ∃ t, Hid (arF .add wi y1 U1 = t) := ⟨_, rfl⟩
            obtain ⟨U2, hU2⟩ : ∃ t, Hid (arG .add wi y1 U1 = t) := ⟨_, rfl⟩
            rw [hy2.out] at HY2
            rw [hU2.out] at q6 HGX HWX
            have hy2' := hy2.out
            have hU2' := hU2.out
            have cU := q4.out.2
            have cw2 := q6.out.2
            have fw2 := HWX.out.frozen i
            go_wp2_with fail
            refine ⟨⟨i + 1, fun t => if t = k then Z else o2 t, fun t => if t = i then y2 else x2 t, by have := HI.out.1; omega, by have := HI.out.2; omega, by go_num, ?_, ?_, ?_, carW_step HU2.out (by have := HI.out.1; have := HJ.out; omega) HY2.out.2 HY2.out.1, q6.out.1.set HNE.out.2.2.2.2.2.1 HNE.out.2.2.2.2.2.2.1 HNE.out.2.2.2.2.2.2.2.1 HNE.out.2.2.2.2.2.2.2.2.1 HNE.out.2.2.2.2.2.2.2.2.2.1 _⟩, ?_⟩
            · refine (HGX.out.setOther (a := ⟨g2, i, none⟩) HNE.out.2.2.2.2.2.2.2.2.2.2 _).congr (fun t _ => ?_)
              by_cases h : t = k <;> simp [h]
            · refine (HWX.out.set i _).congr (fun t _ => ?_)
              by_cases h : t = i <;> simp [h]
            · rw [HKK.out.2]
              exact carO_step HO2.out HI.out.1 HI.out.2 HZC.out.2 HZC.out.1
            · have := HI.out.2; simp [intOf]; omega
          · have q1 : Hid ((Fr5 w (arG .mul T wi wr.drew) p0 p1 p2 mb (OBox M (some ⟨bv, ov, none⟩) n kv (some ⟨bs, os, none⟩) N1 ks) (MBox n n (some ⟨bl, ol, none⟩) m ka) (MBox 0 0 none 0 0) (MBox n n (some ⟨g, 0, none⟩) NN NN)) ∧ (arG .mul T wi wr.drew).cell? ⟨g2, i, none⟩ = some (.float .f64 wi)) := HAR.out .mul T wi _ HLP0.out
            have q2 : Hid ((Fr5 w (arG .mul C X (arG .mul T wi wr.drew)) p0 p1 p2 mb (OBox M (some ⟨bv, ov, none⟩) n kv (some ⟨bs, os, none⟩) N1 ks) (MBox n n (some ⟨bl, ol, none⟩) m ka) (MBox 0 0 none 0 0) (MBox n n (some ⟨g, 0, none⟩) NN NN)) ∧ (arG .mul C X (arG .mul T wi wr.drew)).cell? ⟨g2, i, none⟩ = some (.float .f64 wi)) := HAR.out .mul C X _ q1.out
            have q3 : Hid ((Fr5 w (arG .sub (arF .mul C X (arG .mul T wi wr.drew)) (arF .mul T wi wr.drew) (arG .mul C X (arG .mul T wi wr.drew))) p0 p1 p2 mb (OBox M (some ⟨bv, ov, none⟩) n kv (some ⟨bs, os, none⟩) N1 ks) (MBox n n (some ⟨bl, ol, none⟩) m ka) (MBox 0 0 none 0 0) (MBox n n (some ⟨g, 0, none⟩) NN NN)) ∧ (arG .sub (arF .mul C X (arG .mul T wi wr.drew)) (arF .mul T wi wr.drew) (arG .mul C X (arG .mul T wi wr.drew))).cell? ⟨g2, i, none⟩ = some (.float .f64 wi)) := HAR.out .sub (arF .mul C X (arG .mul T wi wr.drew)) (arF .mul T wi wr.drew) _ q2.out
            have HGZ : Hid ((arG .sub (arF .mul C X (arG .mul T wi wr.drew)) (arF .mul T wi wr.drew) (arG .mul C X (arG .mul T wi wr.drew))).rowIs g 28 NN (fun t => .float .f64 (o2 t))) := HGA.out _ _ _ _ (HGA.out _ _ _ _ (HGA.out _ _ _ _ HGD.out))
            have HWZ : Hid ((arG .sub (arF .mul C X (arG .mul T wi wr.drew)) (arF .mul T wi wr.drew) (arG .mul C X (arG .mul T wi wr.drew))).rowIs g2 28 n (fun t => .float .f64 (x2 t))) := HWA.out _ _ _ _ (HWA.out _ _ _ _ (HWA.out _ _ _ _ HWD.out))
            have HZC : Hid (canonOf (arF .sub (arF .mul C X (arG .mul T wi wr.drew)) (arF .mul T wi wr.drew) (arG .mul C X (arG .mul T wi wr.drew))) = oC f v0 s0 n i j ∧ (arF .sub (arF .mul C X (arG .mul T wi wr.drew)) (arF .mul T wi wr.drew) (arG .mul C X (arG .mul T wi wr.drew))) < 18446744073709551616) := ⟨by rw [canon_ar ok_s _ _ _ (arF_lt ok_m _ _ _) (arF_lt ok_m _ _ _), canon_ar ok_m _ _ _ HC.out.2 HXL.out, canon_ar ok_m _ _ _ HT.out.2 HUL.out.1, HC.out.1, HT.out.1, HUL.out.2]; unfold oC; rw [← HKK.out.2, hX.out, show n - 1 - j = d by have := HJ.out; omega], arF_lt ok_s _ _ _⟩
            go_simp
            go_wp2_with fail
            refine hK.out _ _ (HKS2.out _ q1) (fun hHeld1 => ?_)
            clear hK K
            try simp only [Act.put, List.setIfInBounds_toArray, List.set_cons_zero, List.set_cons_succ]
            refine wpAnyH_ready (rs := [9]) (by kernel_rfl) (by simp) ?_
            refine AllReadyH.cons (o := _) rfl (fun K hK => ?_) AllReadyH.nil
            go_simp
            go_wp2_with fail
            refine hK.out _ _ (HKS2.out _ q2) (fun hHeld2 => ?_)
            clear hK K
            try simp only [Act.put, List.setIfInBounds_toArray, List.set_cons_zero, List.set_cons_succ]
            refine wpAnyH_ready (rs := [16]) (by kernel_rfl) (by simp) ?_
            refine AllReadyH.cons (o := _) rfl (fun K hK => ?_) AllReadyH.nil
            go_simp
            go_wp2_with fail
            refine hK.out _ _ (HKS2.out _ q3) (fun hHeld3 => ?_)
            clear hK K
            try simp only [Act.put, List.setIfInBounds_toArray, List.set_cons_zero, List.set_cons_succ]
            refine take_at 17 96 (.pointer (some ⟨g, k, none⟩)) rfl rfl (by kernel_rfl) (by kernel_rfl) (by kernel_rfl) (fun _ _ _ h => h) (Or.inl ⟨by rfl, fun w hSw => by (try dsimp only at hSw); go_simp⟩) (by assumption) ?_
            simp only [Act.put, List.setIfInBounds_toArray, List.set_cons_zero, List.set_cons_succ]
            obtain ⟨Z, hZ⟩ : ∃ t, Hid ((arF .sub (arF .mul C X (arG .mul T wi wr.drew)) (arF .mul T wi wr.drew) (arG .mul C X (arG .mul T wi wr.drew))) = t) := ⟨_, rfl⟩
            obtain ⟨A3, hA3⟩ : ∃ t, Hid ((arG .sub (arF .mul C X (arG .mul T wi wr.drew)) (arF .mul T wi wr.drew) (arG .mul C X (arG .mul T wi wr.drew))) = t) := ⟨_, rfl⟩
            rw [hZ.out] at HZC
            rw [hA3.out] at q3 HGZ HWZ
            rw [hZ.out, hA3.out]
            have cg := HGZ.out.cell HKK.out.1
            have fg := HGZ.out.frozen k
            have HGS := hid (HGZ.out.set k (.float .f64 Z))
            have HWS := hid (HWZ.out.setOther (a := ⟨g, k, none⟩) (fun h => HNE.out.2.2.2.2.2.2.2.2.2.2 h.symm) (.float .f64 Z))
            have q4 : Hid ((Fr5 w (A3.setCell ⟨g, k, none⟩ (.float .f64 Z)) p0 p1 p2 mb (OBox M (some ⟨bv, ov, none⟩) n kv (some ⟨bs, os, none⟩) N1 ks) (MBox n n (some ⟨bl, ol, none⟩) m ka) (MBox 0 0 none 0 0) (MBox n n (some ⟨g, 0, none⟩) NN NN)) ∧ (A3.setCell ⟨g, k, none⟩ (.float .f64 Z)).cell? ⟨g2, i, none⟩ = some (.float .f64 wi)) := ⟨q3.out.1.set HNE.out.1 HNE.out.2.1 HNE.out.2.2.1 HNE.out.2.2.2.1 HNE.out.2.2.2.2.1 _, by have := HWS.out.cell HI.out.2; rw [hwi.out] at this; exact this⟩
            refine wpAnyH_ready (rs := [18]) (by kernel_rfl) (by simp) ?_
            refine AllReadyH.cons (o := _) rfl (fun K hK => ?_) AllReadyH.nil
            go_simp
            go_wp2_with fail
            refine hK.out _ _ (HKS2.out _ q4) (fun hHeld4 => ?_)
            clear hK K
            try simp only [Act.put, List.setIfInBounds_toArray, List.set_cons_zero, List.set_cons_succ]
            refine wpAnyH_done (by kernel_rfl) ?_ _
            obtain ⟨U, hU⟩ : ∃ t, Hid (A3.setCell ⟨g, k, none⟩ (.float .f64 Z) = t) := ⟨_, rfl⟩
            rw [hU.out] at q4 HGS HWS
            have hU' := hU.out
            rw [hU.out]
            have q5 := hid (HAR.out .mul v X U q4.out)
            have HGU : Hid ((arG .mul v X U).rowIs g 28 NN (fun t => if t = k then .float .f64 Z else .float .f64 (o2 t))) := HGS.out.of_block (by rw [arG_heap])
            have HWU := hid (HWA.out .mul v X U HWS.out)
            have HY1 : Hid (canonOf (arF .mul v X U) = caf .mul (canonOf v) (canonOf X) ∧ arF .mul v X U < 18446744073709551616) := ⟨canon_ar ok_m _ _ _ HPL.out.2.2 HXL.out, arF_lt ok_m _ _ _⟩
            obtain ⟨y1, hy1⟩ : ∃ t, Hid (arF .mul v X U = t) := ⟨_, rfl⟩
            obtain ⟨U1, hU1⟩ : ∃ t, Hid (arG .mul v X U = t) := ⟨_, rfl⟩
            rw [hy1.out] at HY1
            rw [hU1.out] at q5 HGU HWU
            have hy1' := hy1.out
            have hU1' := hU1.out
            have q6 := hid (HAR.out .add wi y1 U1 q5.out)
            have HGX : Hid ((arG .add wi y1 U1).rowIs g 28 NN (fun t => if t = k then .float .f64 Z else .float .f64 (o2 t))) := HGU.out.of_block (by rw [arG_heap])
            have HWX := hid (HWA.out .add wi y1 U1 HWU.out)
            have HY2 : Hid (canonOf (arF .add wi y1 U1) = caf .add (wC f v0 n d i) (caf .mul (canonOf (v0 (n - 1 - d))) (canonOf (f (i * n + (n - 1 - d))))) ∧ arF .add wi y1 U1 < 18446744073709551616) := ⟨by rw [canon_ar ok_a _ _ _ HUL.out.1 HY1.out.2, HY1.out.1, HUL.out.2, show n - 1 - d = j by have := HJ.out; omega, ← HKK.out.2, hX.out, hv.out], arF_lt ok_a _ _ _⟩
            obtain ⟨y2, hy2⟩ : ∃ t, Hid (arF .add wi y1 U1 = t) := ⟨_, rfl⟩
            obtain ⟨U2, hU2⟩ : ∃ t, Hid (arG .add wi y1 U1 = t) := ⟨_, rfl⟩
            rw [hy2.out] at HY2
            rw [hU2.out] at q6 HGX HWX
            have hy2' := hy2.out
            have hU2' := hU2.out
            have cU := q4.out.2
            have cw2 := q6.out.2
            have fw2 := HWX.out.frozen i
            go_wp2_with fail
            refine ⟨⟨i + 1, fun t => if t = k then Z else o2 t, fun t => if t = i then y2 else x2 t, by have := HI.out.1; omega, by have := HI.out.2; omega, by go_num, ?_, ?_, ?_, carW_step HU2.out (by have := HI.out.1; have := HJ.out; omega) HY2.out.2 HY2.out.1, q6.out.1.set HNE.out.2.2.2.2.2.1 HNE.out.2.2.2.2.2.2.1 HNE.out.2.2.2.2.2.2.2.1 HNE.out.2.2.2.2.2.2.2.2.1 HNE.out.2.2.2.2.2.2.2.2.2.1 _⟩, ?_⟩
            · refine (HGX.out.setOther (a := ⟨g2, i, none⟩) HNE.out.2.2.2.2.2.2.2.2.2.2 _).congr (fun t _ => ?_)
              by_cases h : t = k <;> simp [h]
            · refine (HWX.out.set i _).congr (fun t _ => ?_)
              by_cases h : t = i <;> simp [h]
            · rw [HKK.out.2]
              exact carO_step HO2.out HI.out.1 HI.out.2 HZC.out.2 HZC.out.1
            · have := HI.out.2; simp [intOf]; omega
        · obtain rfl : i = n := by omega
          go_wp2_with fail
          refine ⟨⟨d + 1, o2, x2, by omega, by go_num, HG2, HW2, ?_, carW_end HU2.out, HF2⟩, ?_⟩
          · have := carO_end HO2.out
            rw [show i - (d + 1) = j by have := HJ.out; omega]
            exact this
          · simp [intOf]; omega
    · obtain rfl : d = n := by omega
      obtain ⟨m0, m1, m2⟩ := mcells_of HF.out.2.2.2.2
      obtain ⟨c0, c1, c2⟩ := mcells_of HF.out.2.2.2.1
      have fz := frzM HF.out.2.2.2.1
      have n1 : g ≠ p2 := fun h => HNE.out.2.2.1 h.symm
      have n2 : g2 ≠ p2 := fun h => HNE.out.2.2.2.2.2.2.2.1 h.symm
      go_wp2_with fail
      refine bodyPost_ret (v := .tuple #[.agg #[.int .i64 d, .int .i64 d, .slice (some ⟨g, 0, none⟩) NN NN], .slice (some ⟨g2, 0, none⟩) d d]) (by simp [results, Try.results61, go_sem, c0, c1, c2]) rfl ⟨⟨g, g2, o, u, rfl, ?_, ?_, ?_, ?_, ?_, HU.out⟩, ?_⟩
      · first | exact HNE.out.2.2.2.2.1 | (rw [← hp0.out]; exact HNE.out.2.2.2.2.1)
      · first | exact HNE.out.2.2.2.2.2.2.2.2.2.1 | (rw [← hp0.out]; exact HNE.out.2.2.2.2.2.2.2.2.2.1)
      · have hr := ((HG.out.setOther (a := ⟨p2, 0, none⟩) n1 (.int .i64 d)).setOther (a := ⟨p2, 1, none⟩) n1 (.int .i64 d)).setOther (a := ⟨p2, 2, none⟩) n1 (.slice (some ⟨g, 0, none⟩) NN NN)
        refine Or.inr ⟨g, 0, rfl, hr.lt, Nat.le_refl _, by have := hNN.out; have := Nat.mul_le_mul HN.out HN.out; omega, fun t ht => ?_⟩
        rw [Nat.zero_add]
        refine ⟨hr.cell ht, ?_⟩
        rw [← hNN.out] at ht
        obtain ⟨s1, s2, s3⟩ := split_k ht
        have := (HO.out _ _ s1 s2).1
        rw [s3] at this
        exact this
      · have hr := ((HW.out.setOther (a := ⟨p2, 0, none⟩) n2 (.int .i64 d)).setOther (a := ⟨p2, 1, none⟩) n2 (.int .i64 d)).setOther (a := ⟨p2, 2, none⟩) n2 (.slice (some ⟨g, 0, none⟩) NN NN)
        refine Or.inr ⟨g2, 0, rfl, hr.lt, Nat.le_refl _, by have := HN.out; omega, fun t ht => ?_⟩
        rw [Nat.zero_add]
        exact ⟨hr.cell ht, (HU.out t ht).1⟩
      · have := HO.out; rw [Nat.sub_self] at this; exact this
      · first | exact StoM.below HF.out.1 (by have := hp0.out; have := hp1.out; have := hp2.out; omega) | (rw [← hp0.out]; exact StoM.below HF.out.1 (by have := hp0.out; have := hp1.out; have := hp2.out; omega))
end Go.Proofs.Ythakhmnlpmfdgaa
