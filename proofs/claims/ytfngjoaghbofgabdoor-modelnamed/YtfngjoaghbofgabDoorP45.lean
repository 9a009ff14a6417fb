
/- The document's Names. -/
import Derived.Test.YtfngjoaghbofgabDoorP44
import Derived.Test.YtfngjoaghbofgabDoorP40
namespace Go.Proofs.YtfngjoaghbofgabDoor
open Go.RowKit Go.IntWalk

theorem st_keepT {W W' : World} {base n kb : Nat} {v : Value} {xs : List Value} {cur : Array Value} {fr : Nat × Nat} {ty : TypeId} (hT : ty ≠ 9) (hO : W.ownsRow base 9 1 v n xs) (hK : W.heap[kb]? = some (.cells cur ty fr)) (hg : W.grownBy W' v.ownBlock) : W'.heap[kb]? = some (.cells cur ty fr) := by
  refine (hg.block kb (Array.getElem?_eq_some_iff.1 hK).1 ?_).trans hK
  intro hc
  rcases hO.2 with ⟨rfl, _⟩ | ⟨g', cap, cur', rfl, _, e3, _⟩
  · cases hc
  · simp only [Value.ownBlock, Option.some.injEq] at hc
    rw [← hc, hK] at e3
    simp at e3
    exact hT e3.2.1
theorem nm_axis (K A : Nat → Int) (i a : Nat) (z : Nat) (hz : (szK (K i)).toNat = z) : nmL K (axP A i ++ (List.range a).map (fun j => (i, j))) ++ (List.range z).map (fun q => nmS q i a) = nmL K (axP A i ++ (List.range (a + 1)).map (fun j => (i, j))) := by
  unfold nmL
  rw [List.range_succ, List.map_append, ← List.append_assoc, List.flatMap_append (xs := axP A i ++ _)]
  simp [hz]
theorem nm_part (K A : Nat → Int) (i a : Nat) (ha : (a : Int) = A i) : nmL K (axP A i ++ (List.range a).map (fun j => (i, j))) = nmL K (axP A (i + 1)) := by
  show _ = nmL K (axP A i ++ (List.range (A i).toNat).map (fun j => (i, j)))
  rw [← ha, Int.toNat_natCast]
end Go.Proofs.YtfngjoaghbofgabDoor

namespace Go.Proofs.YtfngjoaghbofgabDoor
open Go.RowKit Go.IntWalk

theorem nm_pos {n : Nat} {K A : Nat → Int} {N F : Nat → Nat} (h : dmE n K A N F = 0) : (nmL K (axP A n)).length ≠ 0 := by
  obtain ⟨h0, y1, _⟩ := dm_zero h
  obtain ⟨_, _, a1, a2, _⟩ := ptS_in (scE_all y1 0 (by omega))
  intro hc
  have hnil : nmL K (axP A n) = [] := List.length_eq_zero_iff.1 hc
  have hm : nmS 0 0 0 ∈ nmL K (axP A n) := by
    unfold nmL
    rw [List.mem_flatMap]
    exact ⟨(0, 0), axP_mem.2 ⟨by show 0 < n; omega, by show ((0 : Nat) : Int) < A 0; omega⟩, List.mem_map.2 ⟨0, List.mem_range.2 (by show 0 < (szK (K 0)).toNat; omega), rfl⟩⟩
  rw [hnil] at hm
  cases hm
theorem owns_base {w : World} {base size n : Nat} {e : TypeId} {v : Value} {xs : List Value} (h : w.ownsRow base e size v n xs) : w.ownsRow 0 e size v n xs := by
  obtain ⟨h1, h2⟩ := h
  refine ⟨h1, ?_⟩
  rcases h2 with h2 | ⟨g, cap, cur, e1, _, e3, e4⟩
  · exact .inl h2
  · exact .inr ⟨g, cap, cur, e1, Nat.zero_le _, e3, e4⟩
theorem st_cell {W : World} {base g cap : Nat} {l : List ByteArray} (h : W.ownsRow base 9 1 (.slice (some ⟨g, 0, none⟩) l.length cap) l.length (stL l)) (k : Nat) (hk : k < l.length) : W.cell? ⟨g, k, none⟩ = some (.string (l.getD k ⟨#[]⟩)) := by
  have hc := h.cells (g := g) rfl k (.string (l.getD k ⟨#[]⟩)) (by
    unfold stL
    rw [List.getElem?_map, List.getElem?_eq_getElem hk, List.getD_eq_getElem?_getD, List.getElem?_eq_getElem hk]
    rfl)
  rw [Go.WideShapes.add_plain, Nat.zero_add] at hc
  exact hc
end Go.Proofs.YtfngjoaghbofgabDoor

namespace Go.Proofs.YtfngjoaghbofgabDoor
open Go.RowKit Go.IntWalk

def SnV (id r c : Int) (sa : Option Addr) (n ka : Nat) (sr : Option Addr) (m kr g : Nat) : Value := .agg #[.int .i64 id, .int .i64 r, .int .i64 c, .slice sa n ka, .slice sr m kr, .int .i64 0, .int .i64 0, .int .i64 0, .float .f64 g]
def SnBox (id r c : Int) (sa : Option Addr) (n ka : Nat) (sr : Option Addr) (m kr g : Nat) : Obj := .cells #[.int .i64 id, .int .i64 r, .int .i64 c, .slice sa n ka, .slice sr m kr, .int .i64 0, .int .i64 0, .int .i64 0, .float .f64 g] 39
/-- The law's own sensor. -/
def LnBox (id r c : Int) (sa : Option Addr) (n ka : Nat) (sr : Option Addr) (m kr g : Nat) : Obj := .cells #[.int .i64 id, .int .i64 r, .int .i64 c, .slice sa n ka, .slice sr m kr, .int .u64 (g : Int)] 26
def SnC (W : World) (b : Nat) (id r c : Int) (sa : Option Addr) (n ka : Nat) (sr : Option Addr) (m kr g : Nat) : Prop := W.cell? ⟨b, 0, none⟩ = some (.int .i64 id) ∧ W.cell? ⟨b, 1, none⟩ = some (.int .i64 r) ∧ W.cell? ⟨b, 2, none⟩ = some (.int .i64 c) ∧ W.cell? ⟨b, 3, none⟩ = some (.slice sa n ka) ∧ W.cell? ⟨b, 4, none⟩ = some (.slice sr m kr) ∧ W.cell? ⟨b, 5, none⟩ = some (.int .i64 0) ∧ W.cell? ⟨b, 6, none⟩ = some (.int .i64 0) ∧ W.cell? ⟨b, 7, none⟩ = some (.int .i64 0) ∧ W.cell? ⟨b, 8, none⟩ = some (.float .f64 g)
theorem sncells_of {W : World} {b : Nat} {id r c : Int} {sa : Option Addr} {n ka : Nat} {sr : Option Addr} {m kr g : Nat} (h : W.heap[b]? = some (SnBox id r c sa n ka sr m kr g)) : SnC W b id r c sa n ka sr m kr g := by
  unfold SnBox at h
  refine ⟨?_, ?_, ?_, ?_, ?_, ?_, ?_, ?_, ?_⟩ <;> simp [World.cell?, h]
theorem snfrz {W : World} {b : Nat} {id r c : Int} {sa : Option Addr} {n ka : Nat} {sr : Option Addr} {m kr g : Nat} (h : W.heap[b]? = some (SnBox id r c sa n ka sr m kr g)) (o : Nat) : W.frozen? ⟨b, o, none⟩ = false := by
  unfold SnBox at h
  simp [World.frozen?, h]
def LnC (W : World) (b : Nat) (id r c : Int) (sa : Option Addr) (n ka : Nat) (sr : Option Addr) (m kr g : Nat) : Prop := W.cell? ⟨b, 0, none⟩ = some (.int .i64 id) ∧ W.cell? ⟨b, 1, none⟩ = some (.int .i64 r) ∧ W.cell? ⟨b, 2, none⟩ = some (.int .i64 c) ∧ W.cell? ⟨b, 3, none⟩ = some (.slice sa n ka) ∧ W.cell? ⟨b, 4, none⟩ = some (.slice sr m kr) ∧ W.cell? ⟨b, 5, none⟩ = some (.int .u64 (g : Int))
theorem lncells_of {W : World} {b : Nat} {id r c : Int} {sa : Option Addr} {n ka : Nat} {sr : Option Addr} {m kr g : Nat} (h : W.heap[b]? = some (LnBox id r c sa n ka sr m kr g)) : LnC W b id r c sa n ka sr m kr g := by
  unfold LnBox at h
  refine ⟨?_, ?_, ?_, ?_, ?_, ?_⟩ <;> simp [World.cell?, h]
def StoS (W : World) (b : Nat) (id r c : Int) (sa : Option Addr) (n ka : Nat) (sr : Option Addr) (m kr g : Nat) : World := (((((((((W).setCell ⟨b, 0, none⟩ (.int .i64 id)).setCell ⟨b, 1, none⟩ (.int .i64 r)).setCell ⟨b, 2, none⟩ (.int .i64 c)).setCell ⟨b, 3, none⟩ (.slice sa n ka)).setCell ⟨b, 4, none⟩ (.slice sr m kr)).setCell ⟨b, 5, none⟩ (.int .i64 0)).setCell ⟨b, 6, none⟩ (.int .i64 0)).setCell ⟨b, 7, none⟩ (.int .i64 0)).setCell ⟨b, 8, none⟩ (.float .f64 g)
theorem StoS.keep {W : World} {a b : Nat} {id r c : Int} {sa : Option Addr} {n ka : Nat} {sr : Option Addr} {m kr g : Nat} (hab : a ≠ b) : (StoS W b id r c sa n ka sr m kr g).heap[a]? = W.heap[a]? := by
  unfold StoS
  repeat rw [set_keepM hab]
theorem StoS.below {w W : World} {b B : Nat} {id r c : Int} {sa : Option Addr} {n ka : Nat} {sr : Option Addr} {m kr g : Nat} (h : Below B w W) (hb : B ≤ b) : Below B w (StoS W b id r c sa n ka sr m kr g) := by
  unfold StoS
  have s : ∀ {U : World} (o : Nat) (v : Value), Below B w U → Below B w (U.setCell ⟨b, o, none⟩ v) := fun o v hU => hU.setCell (p := ⟨b, o, none⟩) hb v
  exact s _ _ (s _ _ (s _ _ (s _ _ (s _ _ (s _ _ (s _ _ (s _ _ (s _ _ h))))))))
theorem FlM.keepB {W W' : World} {sa : Option Addr} {n cap : Nat} {xs : List Nat} (h : FlM W sa n cap xs) (hs : W.heap.size ≤ W'.heap.size) (hk : ∀ b off, sa = some ⟨b, off, none⟩ → n ≠ 0 → W'.heap[b]? = W.heap[b]?) : FlM W' sa n cap xs := by
  obtain ⟨h1, h2, h3 | ⟨b, off, rfl, h4, h5, h6, h7⟩⟩ := h
  · exact ⟨h1, h2, Or.inl h3⟩
  · refine ⟨h1, h2, Or.inr ⟨b, off, rfl, by omega, h5, h6, fun j hj => ?_⟩⟩
    rw [World.cell?_of_block (hk b off rfl (by omega))]
    exact h7 j hj
theorem OwM.keepS {W W0 : World} {B b0 : Nat} {ta : Option Addr} {n cap : Nat} {xs : List Nat} (h : OwM W0 B ta n cap xs) (hf : FlM W ta n cap xs) (hb : b0 < B) {id r c : Int} {sa : Option Addr} {q ka : Nat} {sr : Option Addr} {m kr g : Nat} : FlM (StoS W b0 id r c sa q ka sr m kr g) ta n cap xs := by
  refine hf.keepB ?_ (fun b off e hn => ?_)
  · unfold StoS
    simp [World.setCell]
  · rcases h.2 with h0 | ⟨g', e', hB, _⟩
    · exact absurd h0 hn
    · rw [e] at e'
      cases e'
      exact StoS.keep (by omega)
set_option maxRecDepth 4000 in
set_option maxHeartbeats 4000000 in
theorem sensor_any (id r c : Int) (sa : Option Addr) (n ka : Nat) (sr : Option Addr) (m kr g : Nat) (xs ys : List Nat) (w : World) (hx : U64At w sa n xs) (hy : U64At w sr m ys) (hn : n ≤ 17592186043904) (hm : m ≤ 17592186043904) : Calls Tryd.prog 6 #[.agg #[.int .i64 id, .int .i64 r, .int .i64 c, .slice sa n ka, .slice sr m kr, .int .u64 (g : Int)]] w fun e w' => (∃ ta tk ua uk, e = .returned (SnV id r c ta n tk ua m uk g) ∧ FlM w' ta n tk xs ∧ FlM w' ua m uk ys) ∧ Below w.heap.size w w' := by
  obtain ⟨t1, t2, t3, t4⟩ := two_b w (LnBox id r c sa n ka sr m kr g) (SnBox 0 0 0 none 0 0 none 0 0 0)
  have HX := hid (fun W (hW : Below w.heap.size w W) => l_own sa n ka xs W (hx.below hW) hn)
  have HY := hid (fun W (hW : Below w.heap.size w W) => l_own sr m kr ys W (hy.below hW) hm)
  have HFF := hid (fun W => f14_any g W)
  have hst := fstoreM
  obtain ⟨V, hV⟩ : ∃ V, Hid ((w.alloc (LnBox id r c sa n ka sr m kr g)).alloc (SnBox 0 0 0 none 0 0 none 0 0 0) = V) := ⟨_, rfl⟩
  rw [hV.out] at t1 t2 t3 t4
  have hV' := hV.out
  unfold LnBox SnBox at hV'
  obtain ⟨lb, hlb⟩ : ∃ t, Hid (w.heap.size = t) := ⟨_, rfl⟩
  obtain ⟨sb, hsb⟩ : ∃ t, Hid (lb + 1 = t) := ⟨_, rfl⟩
  rw [hlb.out] at t1 t2
  rw [hsb.out] at t2
  have hlb' := hlb.out
  have hsb' := hsb.out
  have HSB : Hid (w.heap.size ≤ sb) := by have := hlb.out; have := hsb.out; show w.heap.size ≤ sb; omega
  have HF0 : Hid (FrF w V.drew lb sb (LnBox id r c sa n ka sr m kr g) (SnBox 0 0 0 none 0 0 none 0 0 0)) := FrF.drew ⟨t3, t1, t2⟩
  have HC : Hid (∀ W, FrF w W lb sb (LnBox id r c sa n ka sr m kr g) (SnBox 0 0 0 none 0 0 none 0 0 0) → LnC W lb id r c sa n ka sr m kr g) := fun W h => lncells_of h.2.1
  unfold LnC at HC
  clear t1 t2 t3 t4 hx hy
  go_enter Tryd.func6, Tryd.ntmps6
  go_wp2_with fail
  refine wp_region_held_drew (S := fun W => W.cell? ⟨lb, 0, none⟩ = some (.int .i64 id) ∧ W.cell? ⟨lb, 1, none⟩ = some (.int .i64 r) ∧ W.cell? ⟨lb, 2, none⟩ = some (.int .i64 c) ∧ W.cell? ⟨lb, 3, none⟩ = some (.slice sa n ka) ∧ W.cell? ⟨lb, 4, none⟩ = some (.slice sr m kr) ∧ W.cell? ⟨lb, 5, none⟩ = some (.int .u64 (g : Int))) (by kernel_rfl) (HC.out _ HF0.out) (fun hHeld => ?_)
  refine take_at 0 3 (.pointer (some ⟨lb, 0, none⟩)) rfl rfl (by kernel_rfl) (by kernel_rfl) (by kernel_rfl) (fun _ _ _ h => h) (Or.inl ⟨by rfl, fun w hSw => by (try dsimp only at hSw); go_simp⟩) (by assumption) ?_
  simp only [Act.put, List.setIfInBounds_toArray, List.set_cons_zero, List.set_cons_succ]
  refine take_at 1 4 (.int .i64 id) rfl rfl (by kernel_rfl) (by kernel_rfl) (by kernel_rfl) (fun _ _ _ h => h) (Or.inl ⟨by rfl, fun w hSw => by (try dsimp only at hSw); go_simp⟩) (by assumption) ?_
  simp only [Act.put, List.setIfInBounds_toArray, List.set_cons_zero, List.set_cons_succ]
  refine take_at 2 5 (.pointer (some ⟨lb, 1, none⟩)) rfl rfl (by kernel_rfl) (by kernel_rfl) (by kernel_rfl) (fun _ _ _ h => h) (Or.inl ⟨by rfl, fun w hSw => by (try dsimp only at hSw); go_simp⟩) (by assumption) ?_
  simp only [Act.put, List.setIfInBounds_toArray, List.set_cons_zero, List.set_cons_succ]
  refine take_at 3 6 (.int .i64 r) rfl rfl (by kernel_rfl) (by kernel_rfl) (by kernel_rfl) (fun _ _ _ h => h) (Or.inl ⟨by rfl, fun w hSw => by (try dsimp only at hSw); go_simp⟩) (by assumption) ?_
  simp only [Act.put, List.setIfInBounds_toArray, List.set_cons_zero, List.set_cons_succ]
  refine take_at 4 7 (.pointer (some ⟨lb, 2, none⟩)) rfl rfl (by kernel_rfl) (by kernel_rfl) (by kernel_rfl) (fun _ _ _ h => h) (Or.inl ⟨by rfl, fun w hSw => by (try dsimp only at hSw); go_simp⟩) (by assumption) ?_
  simp only [Act.put, List.setIfInBounds_toArray, List.set_cons_zero, List.set_cons_succ]
  refine take_at 5 8 (.int .i64 c) rfl rfl (by kernel_rfl) (by kernel_rfl) (by kernel_rfl) (fun _ _ _ h => h) (Or.inl ⟨by rfl, fun w hSw => by (try dsimp only at hSw); go_simp⟩) (by assumption) ?_
  simp only [Act.put, List.setIfInBounds_toArray, List.set_cons_zero, List.set_cons_succ]
  refine take_at 6 9 (.pointer (some ⟨lb, 3, none⟩)) rfl rfl (by kernel_rfl) (by kernel_rfl) (by kernel_rfl) (fun _ _ _ h => h) (Or.inl ⟨by rfl, fun w hSw => by (try dsimp only at hSw); go_simp⟩) (by assumption) ?_
  simp only [Act.put, List.setIfInBounds_toArray, List.set_cons_zero, List.set_cons_succ]
  refine take_at 7 10 (.slice sa n ka) rfl rfl (by kernel_rfl) (by kernel_rfl) (by kernel_rfl) (fun _ _ _ h => h) (Or.inl ⟨by rfl, fun w hSw => by (try dsimp only at hSw); go_simp⟩) (by assumption) ?_
  simp only [Act.put, List.setIfInBounds_toArray, List.set_cons_zero, List.set_cons_succ]
  refine take_at 10 13 (.pointer (some ⟨lb, 4, none⟩)) rfl rfl (by kernel_rfl) (by kernel_rfl) (by kernel_rfl) (fun _ _ _ h => h) (Or.inl ⟨by rfl, fun w hSw => by (try dsimp only at hSw); go_simp⟩) (by assumption) ?_
  simp only [Act.put, List.setIfInBounds_toArray, List.set_cons_zero, List.set_cons_succ]
  refine take_at 11 14 (.slice sr m kr) rfl rfl (by kernel_rfl) (by kernel_rfl) (by kernel_rfl) (fun _ _ _ h => h) (Or.inl ⟨by rfl, fun w hSw => by (try dsimp only at hSw); go_simp⟩) (by assumption) ?_
  simp only [Act.put, List.setIfInBounds_toArray, List.set_cons_zero, List.set_cons_succ]
  refine take_at 13 16 (.pointer (some ⟨lb, 5, none⟩)) rfl rfl (by kernel_rfl) (by kernel_rfl) (by kernel_rfl) (fun _ _ _ h => h) (Or.inl ⟨by rfl, fun w hSw => by (try dsimp only at hSw); go_simp⟩) (by assumption) ?_
  simp only [Act.put, List.setIfInBounds_toArray, List.set_cons_zero, List.set_cons_succ]
  refine take_at 14 17 (.int .u64 (g : Int)) rfl rfl (by kernel_rfl) (by kernel_rfl) (by kernel_rfl) (fun _ _ _ h => h) (Or.inl ⟨by rfl, fun w hSw => by (try dsimp only at hSw); go_simp⟩) (by assumption) ?_
  simp only [Act.put, List.setIfInBounds_toArray, List.set_cons_zero, List.set_cons_succ]
  refine wpAnyH_ready (rs := [8]) (by kernel_rfl) (by simp) ?_
  refine AllReadyH.cons (o := _) rfl (fun K' hK => ?_) AllReadyH.nil
  go_simp
  refine (HX.out _ HF0.out.1).mono ?_
  rintro e u1 ⟨ta, tk, rfl, ho1, hb⟩
  have HF1 := hid (HF0.out.call hb)
  have HO1 := hid ho1
  clear ho1 hb
  go_wp2_with fail
  refine hK.out _ _ (HC.out _ HF1.out) (fun hHeld1 => ?_)
  clear hK K'
  try simp only [Act.put, List.setIfInBounds_toArray, List.set_cons_zero, List.set_cons_succ]
  refine take_at 9 12 (.agg #[.int .i64 r, .int .i64 c, .slice ta n tk]) rfl rfl (by kernel_rfl) (by kernel_rfl) (by kernel_rfl) (fun _ _ _ h => h) (Or.inl ⟨by rfl, fun w hSw => by (try dsimp only at hSw); go_simp⟩) (by assumption) ?_
  simp only [Act.put, List.setIfInBounds_toArray, List.set_cons_zero, List.set_cons_succ]
  refine wpAnyH_ready (rs := [12]) (by kernel_rfl) (by simp) ?_
  refine AllReadyH.cons (o := _) rfl (fun K' hK => ?_) AllReadyH.nil
  go_simp
  refine (HY.out _ HF1.out.1).mono ?_
  rintro e u2 ⟨ua, uk, rfl, ho2, hb⟩
  have HF2 := hid (HF1.out.call hb)
  have HO2 := hid ho2
  have HO1b := hid (HO1.out.1.below hb)
  clear ho2 hb
  go_wp2_with fail
  refine hK.out _ _ (HC.out _ HF2.out) (fun hHeld2 => ?_)
  clear hK K'
  try simp only [Act.put, List.setIfInBounds_toArray, List.set_cons_zero, List.set_cons_succ]
  refine wpAnyH_ready (rs := [15]) (by kernel_rfl) (by simp) ?_
  refine AllReadyH.cons (o := _) rfl (fun K' hK => ?_) AllReadyH.nil
  go_simp
  refine (HFF.out _).mono ?_
  rintro e u3 ⟨rfl, hw⟩
  rw [hw]
  clear hw
  go_wp2_with fail
  refine hK.out _ _ (HC.out _ HF2.out) (fun hHeld3 => ?_)
  clear hK K'
  try simp only [Act.put, List.setIfInBounds_toArray, List.set_cons_zero, List.set_cons_succ]
  refine take_at 16 19 (.agg #[.int .i64 id, .int .i64 r, .int .i64 c, .slice ta n tk, .slice ua m uk, .int .i64 0, .int .i64 0, .int .i64 0, .float .f64 g]) rfl rfl (by kernel_rfl) (by kernel_rfl) (by kernel_rfl) (fun _ _ _ h => h) (Or.inl ⟨by rfl, fun w hSw => by (try dsimp only at hSw); go_simp⟩) (by assumption) ?_
  simp only [Act.put, List.setIfInBounds_toArray, List.set_cons_zero, List.set_cons_succ]
  have sn := sncells_of HF2.out.2.2
  have fz := snfrz HF2.out.2.2
  unfold SnC at sn
  obtain ⟨s0, s1, s2, s3, s4, s5, s6, s7, s8⟩ := sn
  have HF3 : Hid (LnC (StoS u2 sb id r c ta n tk ua m uk g) lb id r c sa n ka sr m kr g) := by
    have hne : lb ≠ sb := by have := hsb.out; omega
    exact lncells_of ((StoS.keep hne).trans HF2.out.2.1)
  unfold LnC StoS at HF3
  refine wpAnyH_ready (rs := [17]) (by kernel_rfl) (by simp) ?_
  refine AllReadyH.cons (o := _) rfl (fun K' hK => ?_) AllReadyH.nil
  go_simp
  go_wp2_with fail
  refine hK.out _ _ HF3.out (fun hHeld4 => ?_)
  clear hK K'
  try simp only [Act.put, List.setIfInBounds_toArray, List.set_cons_zero, List.set_cons_succ]
  refine wpAnyH_done (by kernel_rfl) ?_ _
  go_wp2_with fail
  refine bodyPost_ret (v := SnV id r c ta n tk ua m uk g) (by simp [results, Tryd.results6, go_sem, SnV, s0, s1, s2, s3, s4, s5, s6, s7, s8]) rfl ?_
  have hbe := StoS.below (id := id) (r := r) (c := c) (sa := ta) (n := n) (ka := tk) (sr := ua) (m := m) (kr := uk) (g := g) HF2.out.1 HSB.out
  have hlt : sb < V.drew.heap.size := (Array.getElem?_eq_some_iff.1 HF0.out.2.2).1
  have hlt1 : sb < u1.heap.size := (Array.getElem?_eq_some_iff.1 HF1.out.2.2).1
  have hA := HO1.out.keepS HO1b.out hlt (id := id) (r := r) (c := c) (sa := ta) (q := n) (ka := tk) (sr := ua) (m := m) (kr := uk) (g := g)
  have hB := HO2.out.keepS HO2.out.1 hlt1 (id := id) (r := r) (c := c) (sa := ta) (q := n) (ka := tk) (sr := ua) (m := m) (kr := uk) (g := g)
  first | exact ⟨⟨ta, tk, ua, uk, rfl, hA, hB⟩, hbe⟩ | (rw [hlb'] at hbe; exact ⟨⟨ta, tk, ua, uk, rfl, hA, hB⟩, hbe⟩)
end Go.Proofs.YtfngjoaghbofgabDoor
