/- bowerlaw11.lives: the chapter's example. No condition. -/
import Derived.Test.YtnlghdkgejimpaaLeafMath
import Derived.Test.YtnlghdkgejimpaaNodeLives
namespace Go.Proofs.Ytnlghdkgejimpaa
open Go.RowKit

def kAll : List ByteArray := [⟨#[97]⟩, ⟨#[98]⟩, ⟨#[99]⟩, ⟨#[100]⟩]
def kL (i : Nat) : List ByteArray := kAll.take i
def vL (i : Nat) : List Nat := List.replicate i 1
def nodI (i : Nat) : Nod := ⟨0, -1, ⟨#[]⟩, ⟨#[]⟩, true, kL i, vL i, []⟩
theorem nodI_with (i : Nat) (h : i < 4) : (nodI i).with (nth kAll i) 1 = nodI (i + 1) := by
  match i, h with
  | 0, _ => exact (by kernel_rfl : (nodI 0).with (nth kAll 0) 1 = nodI 1)
  | 1, _ => exact (by kernel_rfl : (nodI 1).with (nth kAll 1) 1 = nodI 2)
  | 2, _ => exact (by kernel_rfl : (nodI 2).with (nth kAll 2) 1 = nodI 3)
  | 3, _ => exact (by kernel_rfl : (nodI 3).with (nth kAll 3) 1 = nodI 4)
theorem nodI_fit (i : Nat) : (kL i).length ≤ 4 ∧ (vL i).length = i := by
  refine ⟨?_, by unfold vL; simp⟩
  unfold kL kAll
  rw [List.length_take]
  simp
  omega
theorem nodI_key (i : Nat) (h : i < 4) : keyB (nth kAll i) = true ∧ insideB (ByteArray.mk #[]).data.toList (ByteArray.mk #[]).data.toList true (nth kAll i).data.toList = true := by
  match i, h with
  | 0, _ => exact ⟨by kernel_rfl, by kernel_rfl⟩
  | 1, _ => exact ⟨by kernel_rfl, by kernel_rfl⟩
  | 2, _ => exact ⟨by kernel_rfl, by kernel_rfl⟩
  | 3, _ => exact ⟨by kernel_rfl, by kernel_rfl⟩
theorem nodI_sound (i : Nat) (h : i ≤ 4) : (nodI i).Sound 4 := by
  induction i with
  | zero => exact empty_sound
  | succ i ih =>
    rw [← nodI_with i (by omega)]
    refine Nod.with_sound rfl (ih (by omega)) (nodI_key i (by omega)).1 (nodI_key i (by omega)).2 ?_
    rw [nodI_with i (by omega)]
    have := (nodI_fit (i + 1)).1
    show ((kL (i + 1)).length : Int) ≤ 4
    omega
theorem nodI_leaf (i : Nat) (h : i ≤ 4) : (nodI i).Leaf := ⟨rfl, (nodI_sound i h).mono (by omega)⟩
theorem nodI_withP (i : Nat) (h : i < 4) : (nodI i).WithP (nth kAll i) 1 4 := ⟨nodI_leaf i (by omega), by omega, by rw [nodI_with i h]; exact nodI_sound (i + 1) (by omega)⟩
theorem nodI_fifth : ¬ (nodI 4).WithP ⟨#[101]⟩ 1 4 := by
  intro h
  have := h.2.2.keys.many
  have e : ((nodI 4).with ⟨#[101]⟩ 1).ks.length = 5 := by kernel_rfl
  rw [e] at this
  omega
def nod7 : Nod := ⟨0, -1, ⟨#[]⟩, ⟨#[]⟩, true, kL 4, [1, 7, 1, 1], []⟩
theorem nodI_b : (nodI 4).with ⟨#[98]⟩ 7 = nod7 := by kernel_rfl
theorem nodI_bP : (nodI 4).WithP ⟨#[98]⟩ 7 4 := by
  refine ⟨nodI_leaf 4 (by omega), by omega, ?_⟩
  refine Nod.with_sound rfl (nodI_sound 4 (by omega)) (by kernel_rfl) (by kernel_rfl) ?_
  have e : ((nodI 4).with ⟨#[98]⟩ 7).ks.length = 4 := by kernel_rfl
  rw [e]; omega
theorem kAll_size : ∀ x ∈ kAll, x.size ≤ 140737488355328 := by
  intro x hx
  simp only [kAll, List.mem_cons, List.not_mem_nil, or_false] at hx
  rcases hx with rfl | rfl | rfl | rfl <;> decide
theorem kFit (i : Nat) (h : i ≤ 4) : Fit ⟨#[]⟩ ⟨#[]⟩ (kL i) (kL i).length (vL i).length ([] : List Int).length :=
  ⟨by decide, by decide, fun x hx => kAll_size x (List.mem_of_mem_take hx), by have := nodI_fit i; simp; omega⟩
/-- With, of the chapter's leaf. -/
theorem lwith {i : Nat} (hi : i ≤ 4) (k : ByteArray) (hk : k.size ≤ 140737488355328) (v : Nat) (b : Bool) (m : Nod) (hm : Nod.or b ((nodI i).with k v) = m) (hb : b = true ↔ (nodI i).WithP k v 4) {W : World} {B g : Nat} (hB : BoxN W B g (nodI i)) :
    ∃ (ak av ac : Option Addr) (ck cv cc : Nat), NB W g #[.int .i64 0, .string ⟨#[]⟩, .string ⟨#[]⟩, .bool true, .int .i64 (-1), .slice ak (kL i).length ck, .slice av (vL i).length cv, .slice ac 0 cc] ∧
    ∀ W', Below W.heap.size W W' → Calls Try.prog 12 #[.agg #[.int .i64 0, .string ⟨#[]⟩, .string ⟨#[]⟩, .bool true, .int .i64 (-1), .slice ak (kL i).length ck, .slice av (vL i).length cv, .slice ac 0 cc], .string k, .int .u64 v, .int .i64 4] W' fun e w' => GaveN W' w' e b m := by
  obtain ⟨ak, av, ac, ck, cv, cc, h1, h2, h3⟩ := hB
  refine ⟨ak, av, ac, ck, cv, cc, h1, fun W' hW => ?_⟩
  have := with_of 0 (-1) ⟨#[]⟩ ⟨#[]⟩ true ak av ac ck cv cc (kL i) (vL i) [] k v 4 b W' (h2.keep hW) (kFit i hi) (by have := nodI_fit i; simp; omega) hk hb
  rw [show (⟨0, -1, ⟨#[]⟩, ⟨#[]⟩, true, kL i, vL i, []⟩ : Nod) = nodI i from rfl, hm] at this
  exact this

theorem lwith2 {i : Nat} (hi : i ≤ 4) (k : ByteArray) (hk : k.size ≤ 140737488355328) (v : Nat) (b : Bool) (m : Nod) (hm : Nod.or b ((nodI i).with k v) = m) (hb : b = true ↔ (nodI i).WithP k v 4) {W : World} {ak av ac : Option Addr} {ck cv cc : Nat} (h2 : NdAt W ak av ac (kL i).length ck (vL i).length cv 0 cc (kL i) (vL i) []) :
    ∀ W', Below W.heap.size W W' → Calls Try.prog 12 #[.agg #[.int .i64 0, .string ⟨#[]⟩, .string ⟨#[]⟩, .bool true, .int .i64 (-1), .slice ak (kL i).length ck, .slice av (vL i).length cv, .slice ac 0 cc], .string k, .int .u64 v, .int .i64 4] W' fun e w' => GaveN W' w' e b m := by
  intro W' hW
  have := with_of 0 (-1) ⟨#[]⟩ ⟨#[]⟩ true ak av ac ck cv cc (kL i) (vL i) [] k v 4 b W' (h2.keep hW) (kFit i hi) (by have := nodI_fit i; simp; omega) hk hb
  rw [show (⟨0, -1, ⟨#[]⟩, ⟨#[]⟩, true, kL i, vL i, []⟩ : Nod) = nodI i from rfl, hm] at this
  exact this
theorem kL4 : (kL 4).length = 4 := by kernel_rfl
theorem vL4 : (vL 4).length = 4 := by kernel_rfl

/-- Written into another box. -/
theorem box_write {w : World} {B A : Nat} {n : Nod} {ak av ac : Option Addr} {ck cv cc : Nat} {c0 c1 c2 c3 c4 c5 c6 c7 : Value} (h2 : NdAt w ak av ac n.ks.length ck n.vs.length cv n.cs.length cc n.ks n.vs n.cs) (h3 : Far B ak ∧ Far B av ∧ Far B ac) (hA : A < B) (m1 : NB w A #[c0, c1, c2, c3, c4, c5, c6, c7]) :
    BoxN (wr5 w A [(0, .int .i64 n.lv), (1, .string n.lo), (2, .string n.hi), (3, .bool n.la), (4, .int .i64 n.nx), (5, .slice ak n.ks.length ck), (6, .slice av n.vs.length cv), (7, .slice ac n.cs.length cc)]) B A n := by
  have hf : ∀ g, B ≤ g → (wr5 w A [(0, .int .i64 n.lv), (1, .string n.lo), (2, .string n.hi), (3, .bool n.la), (4, .int .i64 n.nx), (5, .slice ak n.ks.length ck), (6, .slice av n.vs.length cv), (7, .slice ac n.cs.length cc)]).heap[g]? = w.heap[g]? := fun g hg => wr5_far A g (by omega) _ _
  exact ⟨ak, av, ac, ck, cv, cc, wr8 m1 _ _ _ _ _ _ _ _, ⟨h2.k.off h3.1 hf, h2.v.off h3.2.1 hf, h2.c.off h3.2.2 hf⟩, h3⟩

/-- The loop's state. -/
structure LivAt (w wE wr : World) (i : Nat) : Prop where
  box : BoxN wr (wE.heap.size + 2) wE.heap.size (nodI i)
  row : wr.heap[wE.heap.size + 1]? = some (.cells #[.string ⟨#[97]⟩, .string ⟨#[98]⟩, .string ⟨#[99]⟩, .string ⟨#[100]⟩] 9 (0, 0))
  b : Below w.heap.size w wr
  z : wE.heap.size + 2 ≤ wr.heap.size
  e : w.heap.size ≤ wE.heap.size
theorem livAt_start {w wE : World} (hb : Below w.heap.size w wE) : LivAt w wE ((wE.alloc (.cells #[.int .i64 0, .string ⟨#[]⟩, .string ⟨#[]⟩, .bool true, .int .i64 (-1), .slice none 0 0, .slice none 0 0, .slice none 0 0] 26)).alloc (.cells #[.string ⟨#[97]⟩, .string ⟨#[98]⟩, .string ⟨#[99]⟩, .string ⟨#[100]⟩] 9)) 0 := by
  have h1 := NB.new wE #[.int .i64 0, .string ⟨#[]⟩, .string ⟨#[]⟩, .bool true, .int .i64 (-1), .slice none 0 0, .slice none 0 0, .slice none 0 0]
  have h2 := one_alloc (wE.alloc (.cells #[.int .i64 0, .string ⟨#[]⟩, .string ⟨#[]⟩, .bool true, .int .i64 (-1), .slice none 0 0, .slice none 0 0, .slice none 0 0] 26)) (.cells #[.string ⟨#[97]⟩, .string ⟨#[98]⟩, .string ⟨#[99]⟩, .string ⟨#[100]⟩] 9)
  refine ⟨⟨none, none, none, 0, 0, 0, h1.below h2.2, ⟨Rd.nil _, Rd.nil _, Rd.nil _⟩, (fun _ h => by cases h), (fun _ h => by cases h), (fun _ h => by cases h)⟩, ?_, ?_, by simp, hb.size⟩
  · have := h2.1
    rw [World.size_alloc] at this
    exact this
  · exact (hb.alloc hb.size _).alloc (by simp; have := hb.size; omega) _
theorem LivAt.elem {w wE wr : World} {i : Nat} (h : LivAt w wE wr i) (hi : i < 4) : wr.cell? ⟨wE.heap.size + 1, i, none⟩ = some (.string (nth kAll i)) := by
  have : wr.cell? ⟨wE.heap.size + 1, i, none⟩ = #[Value.string ⟨#[97]⟩, .string ⟨#[98]⟩, .string ⟨#[99]⟩, .string ⟨#[100]⟩][i]? := by simp [World.cell?, h.row]
  rw [this]
  match i, hi with
  | 0, _ => rfl
  | 1, _ => rfl
  | 2, _ => rfl
  | 3, _ => rfl
theorem LivAt.next {w wE wr w2 : World} {i : Nat} {ak av ac : Option Addr} {ck cv cc : Nat} {m : Nod} (h : LivAt w wE wr i) (hm : nodI (i + 1) = m) (hb : Below wr.heap.size wr w2) (h2 : NdAt w2 ak av ac m.ks.length ck m.vs.length cv m.cs.length cc m.ks m.vs m.cs) (h3 : Far wr.heap.size ak ∧ Far wr.heap.size av ∧ Far wr.heap.size ac) (o : Obj) :
    LivAt w wE (wr5 (w2.alloc o) wE.heap.size [(0, .int .i64 m.lv), (1, .string m.lo), (2, .string m.hi), (3, .bool m.la), (4, .int .i64 m.nx), (5, .slice ak m.ks.length ck), (6, .slice av m.vs.length cv), (7, .slice ac m.cs.length cc)]) (i + 1) := by
  have hz := h.z
  have hw := hb.size
  have ho := boxed_below w2 o
  have hox := ho.size
  obtain ⟨_, _, _, _, _, _, m1, _, _⟩ := h.box
  rw [hm.symm] at *
  refine ⟨?_, ?_, ?_, ?_, h.e⟩
  · exact box_write (h2.keep ho) ⟨h3.1.base hz, h3.2.1.base hz, h3.2.2.base hz⟩ (by omega) ((m1.below hb).below ho)
  · rw [wr5_far _ _ (by omega), ho.block _ (by omega), hb.block _ (by omega)]
    exact h.row
  · exact wr5_below _ _ h.e _ _ _ ((h.b.trans (hb.mono h.b.size)).trans (ho.mono (Nat.le_trans h.b.size hw)))
  · rw [wr5_size]; omega
end Go.Proofs.Ytnlghdkgejimpaa
