/- sort.Search with Find's closure, and Find, at a row of texts that need not rise: a place in the row, and whether the key is there. Conditions: at most 2^38 texts, each of at most 2^47 bytes. node.Kid, node.KidBelow of any node: a kid of it, or none; of an inner one whose keys rise the document's. Conditions: sizes that fit. A way's pure course (the document's); find's closures. Conditions: sizes that fit. A way's invariant, round by round. No walk. find's course, down: what it tells of any view. Conditions: sizes that fit, numbers that are numbers. find's course, down, below a text: the same as Down. Conditions: sizes that fit, numbers that are numbers. find's course, down, at the end: the same as Down. Conditions: sizes that fit, numbers that are numbers. find.Leaf, Below, End; the law's way. Conditions: sizes that fit, numbers that are numbers. The document's Kid (bowerref10), part and kid (bowerref19). Conditions: sizes that fit. The document's part and kid (bowerref19). Conditions: sizes that fit. The document's way (bowerref19.Way), in a view of sound nodes. Conditions: sizes that fit. Views of nodes that came in: the code's and the document's; whether all are small, or sound. Conditions: sizes that fit. -/
import Derived.Test.YtdbklklmpnlinaaFind2
import Derived.Test.YtdbklklmpnlinaaNodeKids
import Derived.Test.YtdbklklmpnlinaaFvMade
import Derived.Test.YtdbklklmpnlinaaKnRow
import Derived.BigQuiet
import Derived.WalkMore
import Derived.Deep.QuietTactic
import Derived.Laws.EntriesVeiled
import Derived.Test.YtdbklklmpnlinaaFrDocs
import Derived.Test.YtdbklklmpnlinaaFvLearn
import Derived.Deep.DeepCutAuto
import Derived.Deep.RegionHeldLaw
namespace Go.Proofs.Ytdbklklmpnlinaa
open Go.RowKit

def FoundIn (w w' : World) (e : Ending) (n : Nat) : Prop := ∃ at_, e = .returned (.int .i64 (at_ : Nat)) ∧ at_ ≤ n ∧ Drew w w'
def FindIn (w w' : World) (e : Ending) (xs : List ByteArray) (k : ByteArray) : Prop :=
  ∃ (at_ : Nat) (there : Bool), e = .returned (.tuple #[.int .i64 at_, .bool there]) ∧ at_ ≤ xs.length ∧ (there = true ↔ at_ < xs.length ∧ nth xs at_ = k) ∧ Below w.heap.size w w'

end Go.Proofs.Ytdbklklmpnlinaa

namespace Go.Proofs.Ytdbklklmpnlinaa
open Go.RowKit

def FloorIn (w w' : World) (e : Ending) (xs : List ByteArray) : Prop := ∃ at_ : Nat, e = .returned (.int .i64 ((at_ : Int) - 1)) ∧ at_ ≤ xs.length ∧ Below w.heap.size w w'
/-- The last place of which it holds. -/
def lastI (p : Nat → Bool) : Nat → Option Nat
  | 0 => none
  | n + 1 => if p n = true then some n else lastI p n
theorem lastI_none {p : Nat → Bool} {n : Nat} (h : ∀ i, i < n → p i = false) : lastI p n = none := by
  induction n with
  | zero => rfl
  | succ n ih =>
    unfold lastI
    rw [if_neg (by rw [h n (by omega)]; simp)]
    exact ih (fun i hi => h i (by omega))
theorem lastI_some {p : Nat → Bool} {n a : Nat} (ha : a < n) (hp : p a = true) (h : ∀ i, a < i → i < n → p i = false) : lastI p n = some a := by
  induction n with
  | zero => omega
  | succ n ih =>
    unfold lastI
    by_cases e : a = n
    · subst e
      rw [if_pos hp]
    · rw [if_neg (by rw [h n (by omega) (by omega)]; simp)]
      exact ih (by omega) (fun i h1 h2 => h i h1 (by omega))
theorem lastI_edge {q : Nat → Bool} {n a : Nat} (h : Edge n a q) : lastI (fun i => !q i) n = if a = 0 then none else some (a - 1) := by
  by_cases ha : a = 0
  · rw [if_pos ha]
    exact lastI_none (fun i hi => by rw [h.2.2 i (by omega) hi]; rfl)
  · rw [if_neg ha]
    exact lastI_some (by have := h.1; omega) (by rw [h.2.1 (a - 1) (by omega)]; rfl) (fun i h1 h2 => by rw [h.2.2 i (by omega) h2]; rfl)
/-- Is it for a text (below it) that a key stands where the kid may be? -/
def kidP (below : Bool) (ks : List ByteArray) (k : ByteArray) (i : Nat) : Bool := if below then !pFind ks k i else !pFloor ks k i
/-- The kid for a text, or below it: the document's. -/
def kidF (below : Bool) (ks : List ByteArray) (cs : List Int) (k : ByteArray) : Option Int := (lastI (kidP below ks k) (min ks.length cs.length)).map (ni cs)
/-- What Kid tells: a kid, or none; as the document says, of an inner node as it should be. -/
def KidSays (w w' : World) (e : Ending) (lv : Int) (ks : List ByteArray) (cs : List Int) (k : ByteArray) (below : Bool) : Prop :=
  ∃ (x : Int) (b : Bool), e = .returned (.tuple #[.int .i64 x, .bool b]) ∧ (b = true → ∃ j, j < cs.length ∧ x = ni cs j) ∧ (lv ≠ 0 → cs.length = ks.length → Rises ks → kidF below ks cs k = if b then some x else none) ∧ Below w.heap.size w w'
theorem kid_says {lv : Int} {ks : List ByteArray} {cs : List Int} {k : ByteArray} {below : Bool} {q : Nat → Bool} {a : Nat} {x : Int} {b : Bool} (hq : ∀ i, kidP below ks k i = !q i) (hE : Rises ks → Edge ks.length a q)
    (h1 : b = true → ∃ j : Nat, j < cs.length ∧ (a : Int) - 1 = j ∧ x = ni cs j) (h2 : b = false → lv = 0 ∨ (a : Int) - 1 < 0 ∨ (cs.length : Int) ≤ (a : Int) - 1) (h0 : lv ≠ 0) (hl : cs.length = ks.length) (hr : Rises ks) : kidF below ks cs k = if b then some x else none := by
  have hE' := hE hr
  have e1 : kidP below ks k = fun i => !q i := funext hq
  unfold kidF
  rw [e1, hl, Nat.min_self, lastI_edge hE']
  cases b with
  | true =>
    obtain ⟨j, hj, ha, hx⟩ := h1 rfl
    rw [if_neg (by omega), if_pos rfl, hx, show a - 1 = j by omega]
    rfl
  | false =>
    have := h2 rfl
    have := hE'.1
    rw [if_pos (by omega), if_neg (by simp)]
    rfl

end Go.Proofs.Ytdbklklmpnlinaa

namespace Go.Proofs.Ytdbklklmpnlinaa
open Go.RowKit Go.Maps

theorem bytesLess_lss : ∀ (a b : List UInt8), Op.bytesLess a b = lss a b
  | [], [] => rfl
  | [], _ :: _ => rfl
  | _ :: _, [] => rfl
  | x :: a, y :: b => by
    have ih := bytesLess_lss a b
    by_cases e : x = y
    · subst e
      simp only [Op.bytesLess, lss, if_pos, beq_self_eq_true, Bool.true_and, ih]
      simp
    · simp only [Op.bytesLess, lss, if_neg e]
      rw [show (x == y) = false from beq_eq_false_iff_ne.2 e, Bool.false_and, Bool.or_false]
      rfl
theorem strLess (a b : ByteArray) : Op.bytesLess a.toList b.toList = lss a.data.toList b.data.toList := by
  rw [bytesLess_lss, ByteArray.toList_eq, ByteArray.toList_eq]

theorem lss_leq : ∀ (a b : List UInt8), (lss a b || a == b) = !lss b a
  | [], [] => rfl
  | [], _ :: _ => rfl
  | _ :: _, [] => rfl
  | x :: a, y :: b => by
    have ih := lss_leq a b
    by_cases e : x = y
    · subst e
      simp only [lss, if_pos]
      rw [← ih]
      simp
    · have e' : ¬ y = x := fun h => e h.symm
      simp only [lss, if_neg e, if_neg e']
      rw [show (x :: a == y :: b) = false from beq_eq_false_iff_ne.2 (fun h => e (by injection h)), Bool.or_false]
      have hne : x.toNat ≠ y.toNat := fun h => e (UInt8.toNat_inj.1 h)
      by_cases h : x.toNat < y.toNat
      · rw [decide_eq_true h, decide_eq_false (by omega)]; rfl
      · rw [decide_eq_false h, decide_eq_true (by omega)]; rfl
theorem run_leq_str (a b : ByteArray) (W : World) : (binOp .leq 9 (.string a) (.string b)).run Try.prog W = .ok (.bool (!lss b.data.toList a.data.toList)) W := by
  have h : (Op.bytesLess a.toList b.toList || a.toList == b.toList) = !lss b.data.toList a.data.toList := by
    rw [bytesLess_lss, lss_leq, ByteArray.toList_eq, ByteArray.toList_eq]
  simp only [binOp, Op.stringOp]
  rw [h]
  rfl
/-- Of a node that is met: is it one of the way; is what is sought left of it; its kid. Kinds: 0 for a text, 1 below it, 2 at the end. -/
def onF (kind : Nat) (k : ByteArray) (n : Nod) : Bool := match kind with
  | 0 => insideB n.lo.data.toList n.hi.data.toList n.la k.data.toList
  | 1 => beneathB n.lo.data.toList n.hi.data.toList n.la k.data.toList
  | _ => n.la
def astrayF (kind : Nat) (k : ByteArray) (n : Nod) : Bool := match kind with
  | 0 => lss k.data.toList n.lo.data.toList
  | 1 => !lss n.lo.data.toList k.data.toList
  | _ => false
def lastF (cs : List Int) : Option Int := if cs.length = 0 then none else some (ni cs (cs.length - 1))
def kidOf (kind : Nat) (k : ByteArray) (n : Nod) : Option Int := match kind with
  | 0 => kidF false n.ks n.cs k
  | 1 => kidF true n.ks n.cs k
  | _ => lastF n.cs
theorem on_not_astray (kind : Nat) (k : ByteArray) (n : Nod) (h : onF kind k n = true) : astrayF kind k n = false := by
  unfold onF at h
  unfold astrayF
  split at h
  · unfold insideB at h
    simp only [Bool.and_eq_true, Bool.not_eq_true'] at h
    exact h.1
  · unfold beneathB at h
    simp only [Bool.and_eq_true] at h
    simp [h.1]
  · rfl

inductive Out
  | miss (c : Int)
  | lost
  | done (l : List Kn)
structure St where
  c : Int
  lv : Int
  acc : List Kn
/-- One node that is met. -/
def stepW (kind : Nat) (k : ByteArray) (ks : List Kn) (s : St) : Out ⊕ St :=
  match kfind ks s.c with
  | none => .inl (.miss s.c)
  | some kn =>
    if (0 ≤ s.lv ∧ kn.n.lv ≠ s.lv) ∨ astrayF kind k kn.n = true then .inl .lost
    else if onF kind k kn.n = false then .inr ⟨kn.n.nx, kn.n.lv, s.acc⟩
    else if kn.n.lv ≤ 0 then .inl (.done (s.acc ++ [kn]))
    else match kidOf kind k kn.n with
      | none => .inl .lost
      | some c => .inr ⟨c, kn.n.lv - 1, s.acc ++ [kn]⟩
def runW (kind : Nat) (k : ByteArray) (ks : List Kn) : Nat → St → Out
  | 0, _ => .lost
  | n + 1, s => match stepW kind k ks s with
    | .inl o => o
    | .inr s' => runW kind k ks n s'
theorem runW_out {kind : Nat} {k : ByteArray} {ks : List Kn} {s : St} {o : Out} {n : Nat} (h : stepW kind k ks s = .inl o) (hn : 0 < n) : runW kind k ks n s = o := by
  cases n with
  | zero => omega
  | succ n => unfold runW; rw [h]
theorem runW_next {kind : Nat} {k : ByteArray} {ks : List Kn} {s s' : St} {n : Nat} (h : stepW kind k ks s = .inr s') (hn : 0 < n) : runW kind k ks n s = runW kind k ks (n - 1) s' := by
  cases n with
  | zero => omega
  | succ n => show (match stepW kind k ks s with | .inl o => o | .inr s' => runW kind k ks n s') = _; rw [h]; rfl

section
variable {w : World}
end
end Go.Proofs.Ytdbklklmpnlinaa

namespace Go.Proofs.Ytdbklklmpnlinaa
open Go.RowKit Go.Maps

def AllS (ks : List Kn) : Prop := ∀ kn ∈ ks, kn.n.Sound 64
theorem kfind_mem {ks : List Kn} {c : Int} {kn : Kn} (h : kfind ks c = some kn) : kn ∈ ks := List.mem_of_find?_eq_some h
/-- The texts and rows of a node fit; its numbers are numbers. -/
structure NodOk (n : Nod) : Prop where
  lo : n.lo.size ≤ 140737488355328
  hi : n.hi.size ≤ 140737488355328
  ks : ∀ x ∈ n.ks, x.size ≤ 140737488355328
  n1 : n.ks.length ≤ 274877906943
  n2 : n.vs.length ≤ 274877906943
  n3 : n.cs.length ≤ 274877906943
  nx : (Lit.int .i64 n.nx).wf = true
  cs : ∀ j, j < n.cs.length → (Lit.int .i64 (ni n.cs j)).wf = true
def Inv (kind : Nat) (k : ByteArray) (ks : List Kn) (M i : Nat) (c lv : Int) (acc : List Kn) : Prop :=
  AllS ks → ∃ s : St, s.c = c ∧ s.acc = acc ∧ (i = 0 → s.lv = -1) ∧ (0 < i → s.lv = lv ∧ 0 ≤ lv) ∧ runW kind k ks M ⟨0, -1, []⟩ = runW kind k ks (M - i) s
section
variable {kind : Nat} {k : ByteArray} {ks : List Kn} {M i : Nat} {c lv : Int} {acc : List Kn} {kn : Kn}
theorem Inv.start (lv : Int) : Inv kind k ks M 0 0 lv [] := fun _ => ⟨⟨0, -1, []⟩, rfl, rfl, fun _ => rfl, fun h => absurd h (Nat.lt_irrefl _), rfl⟩
theorem Inv.miss (h : Inv kind k ks M i c lv acc) (hi : i < M) (hk : kfind ks c = none) (hs : AllS ks) : runW kind k ks M ⟨0, -1, []⟩ = .miss c := by
  obtain ⟨s, rfl, rfl, _, _, h5⟩ := h hs
  rw [h5]
  exact runW_out (by unfold stepW; rw [hk]) (by omega)
theorem Inv.level (h : Inv kind k ks M i c lv acc) (hi : i < M) (hk : kfind ks c = some kn) (h0 : 0 < i) (hl : kn.n.lv ≠ lv) (hs : AllS ks) : runW kind k ks M ⟨0, -1, []⟩ = .lost := by
  obtain ⟨s, rfl, rfl, _, h4, h5⟩ := h hs
  obtain ⟨h6, h7⟩ := h4 h0
  rw [h5]
  refine runW_out ?_ (by omega)
  unfold stepW
  rw [hk]
  simp only
  rw [if_pos (Or.inl ⟨by omega, by rw [h6]; exact hl⟩)]
theorem Inv.astray (h : Inv kind k ks M i c lv acc) (hi : i < M) (hk : kfind ks c = some kn) (ha : astrayF kind k kn.n = true) (hs : AllS ks) : runW kind k ks M ⟨0, -1, []⟩ = .lost := by
  obtain ⟨s, rfl, rfl, _, h4, h5⟩ := h hs
  rw [h5]
  refine runW_out ?_ (by omega)
  unfold stepW
  rw [hk]
  simp only
  rw [if_pos (Or.inr ha)]
theorem not_first {s : St} (h3 : i = 0 → s.lv = -1) (h4 : 0 < i → s.lv = lv ∧ 0 ≤ lv) (hl : 0 < i → kn.n.lv = lv) (ha : astrayF kind k kn.n = false) : ¬ ((0 ≤ s.lv ∧ kn.n.lv ≠ s.lv) ∨ astrayF kind k kn.n = true) := by
  rintro (⟨h1, h2⟩ | h1)
  · rcases Nat.eq_zero_or_pos i with e | e
    · have := h3 e; omega
    · exact h2 ((hl e).trans (h4 e).1.symm)
  · rw [ha] at h1; cases h1
theorem Inv.over (h : Inv kind k ks M i c lv acc) (hi : i < M) (hk : kfind ks c = some kn) (hl : 0 < i → kn.n.lv = lv) (ha : astrayF kind k kn.n = false) (ho : onF kind k kn.n = false) : Inv kind k ks M (i + 1) kn.n.nx kn.n.lv acc := by
  intro hs
  obtain ⟨s, rfl, rfl, h3, h4, h5⟩ := h hs
  have hsn := hs kn (kfind_mem hk)
  refine ⟨⟨kn.n.nx, kn.n.lv, s.acc⟩, rfl, rfl, fun e => by omega, fun _ => ⟨rfl, hsn.level.1⟩, ?_⟩
  rw [h5, show M - (i + 1) = M - i - 1 by omega]
  refine runW_next ?_ (by omega)
  unfold stepW
  rw [hk]
  simp only
  rw [if_neg (not_first h3 h4 hl ha), if_pos ho]
theorem Inv.done (h : Inv kind k ks M i c lv acc) (hi : i < M) (hk : kfind ks c = some kn) (hl : 0 < i → kn.n.lv = lv) (ha : astrayF kind k kn.n = false) (ho : onF kind k kn.n = true) (hz : kn.n.lv = 0) (hs : AllS ks) : runW kind k ks M ⟨0, -1, []⟩ = .done (acc ++ [kn]) := by
  obtain ⟨s, rfl, rfl, h3, h4, h5⟩ := h hs
  rw [h5]
  refine runW_out ?_ (by omega)
  unfold stepW
  rw [hk]
  simp only
  rw [if_neg (not_first h3 h4 hl ha), if_neg (by rw [ho]; simp), if_pos (by omega)]
theorem Inv.nokid (h : Inv kind k ks M i c lv acc) (hi : i < M) (hk : kfind ks c = some kn) (hl : 0 < i → kn.n.lv = lv) (ha : astrayF kind k kn.n = false) (ho : onF kind k kn.n = true) (hz : kn.n.lv ≠ 0) (hkid : AllS ks → kidOf kind k kn.n = none) (hs : AllS ks) : runW kind k ks M ⟨0, -1, []⟩ = .lost := by
  obtain ⟨s, rfl, rfl, h3, h4, h5⟩ := h hs
  have hsn := hs kn (kfind_mem hk)
  have := hsn.level.1
  rw [h5]
  refine runW_out ?_ (by omega)
  unfold stepW
  rw [hk]
  simp only
  rw [if_neg (not_first h3 h4 hl ha), if_neg (by rw [ho]; simp), if_neg (by omega), hkid hs]
theorem Inv.kid {x z : Int} (h : Inv kind k ks M i c lv acc) (hi : i < M) (hk : kfind ks c = some kn) (hl : 0 < i → kn.n.lv = lv) (ha : astrayF kind k kn.n = false) (ho : onF kind k kn.n = true) (hz : kn.n.lv ≠ 0) (hkid : AllS ks → kidOf kind k kn.n = some x) (hzz : 0 ≤ kn.n.lv → kn.n.lv < 14 → z = kn.n.lv - 1) : Inv kind k ks M (i + 1) x z (acc ++ [kn]) := by
  intro hs
  obtain ⟨s, rfl, rfl, h3, h4, h5⟩ := h hs
  have hsn := hs kn (kfind_mem hk)
  have := hsn.level.1
  have hzz := hzz this hsn.level.2
  refine ⟨⟨x, z, s.acc ++ [kn]⟩, rfl, rfl, fun e => by omega, fun _ => ⟨rfl, by omega⟩, ?_⟩
  rw [h5, show M - (i + 1) = M - i - 1 by omega]
  refine runW_next ?_ (by omega)
  unfold stepW
  rw [hk]
  simp only
  rw [if_neg (not_first h3 h4 hl ha), if_neg (by rw [ho]; simp), if_neg (by omega), hkid hs, hzz]
theorem Inv.stop (h : Inv kind k ks M i c lv acc) (hi : M ≤ i) (hs : AllS ks) : runW kind k ks M ⟨0, -1, []⟩ = .lost := by
  obtain ⟨s, _, _, _, _, h5⟩ := h hs
  rw [h5, show M - i = 0 by omega]
  rfl
theorem kid_sound {x : Int} {b : Bool} {below : Bool} (hk : kfind ks c = some kn) (hz : kn.n.lv ≠ 0) (hx : kn.n.lv ≠ 0 → kn.n.cs.length = kn.n.ks.length → Rises kn.n.ks → kidF below kn.n.ks kn.n.cs k = if b then some x else none) (hs : AllS ks) : kidF below kn.n.ks kn.n.cs k = if b then some x else none := by
  have hsn := hs kn (kfind_mem hk)
  exact hx hz (hsn.entries.inner hz).1 hsn.keys.rise
end
/-- What going down tells. -/
def Ends (kind : Nat) (k : ByteArray) (ks : List Kn) (M : Nat) (B0 B : Nat) (kk mm : Int) (w' : World) (v : Value) (ok : Bool) (k' m' : Int) : Prop :=
  match runW kind k ks M ⟨0, -1, []⟩ with
  | .done l => ok = true ∧ k' = kk ∧ m' = mm ∧ KsR (PO w' B) w' B0 v l
  | .miss c => ok = false ∧ v = .slice none 0 0 ∧ k' = lackK kk (cellB c) 1 ∧ m' = lackM kk mm (cellB c) c
  | .lost => ok = false ∧ v = .slice none 0 0 ∧ k' = lackK kk false 0 ∧ m' = lackM kk mm false 0
def DownSays (kind : Nat) (k : ByteArray) (ks : List Kn) (M : Nat) (w w' : World) (B A b N : Nat) (sv : Value) (ss : List (Int × Int)) (kk mm : Int) (e : Ending) : Prop :=
  ∃ (ao : Option Addr) (n c : Nat) (ok : Bool) (k' m' : Int), e = .returned (.tuple #[.slice ao n c, .bool ok]) ∧ FV w' B A b sv N ks ss k' m' ∧ Turn (VS A b sv) w w' ∧ (AllS ks → Ends kind k ks M w.heap.size B kk mm w' (.slice ao n c) ok k' m')
theorem KsR.fv {w w' : World} {B C A b N : Nat} {sv v : Value} {ks l : List Kn} {ss : List (Int × Int)} {k m : Int} (h : KsR (PO w B) w C v l) (hf : FV w B A b sv N ks ss k m) (ht : Turn (VS A b sv) w w') : KsR (PO w' B) w' C v l := by
  refine (h.mono (fun a b c kn hp => hp.turn hf.off ht)).moved ht (fun g cs hS hg => ?_)
  rcases hS with rfl | rfl | hS
  · have := hf.view
    unfold BX at this
    rw [this] at hg
    injection hg with hg
    injection hg with _ e _
    exact absurd e (by decide)
  · obtain ⟨D, ⟨es, cl, hb, _⟩, _⟩ := hf.map
    rw [hb] at hg
    injection hg with hg
    cases hg
  · obtain ⟨_, cs', e'⟩ := fv_block hf.sp hS
    rw [e'] at hg
    injection hg with hg
    injection hg with _ e _
    exact absurd e (by decide)
theorem KsR.later {w w' : World} {B C : Nat} {v : Value} {l : List Kn} (h : KsR (PO w B) w C v l) (hb : Below w.heap.size w w') : KsR (PO w' B) w' C v l :=
  (h.mono (fun _ _ _ _ hp => hp.keep hb)).keep hb
end Go.Proofs.Ytdbklklmpnlinaa

namespace Go.Proofs.Ytdbklklmpnlinaa
open Go.RowKit Go.Maps

/-- A value that is one's, its rows' values open. -/
theorem KnO.vals {w : World} {B : Nat} {v : Value} {kn : Kn} (h : KnO w B v kn) : ∃ (ak av ac : Option Addr) (ck cv cc : Nat), v = .agg #[.int .i64 kn.c, .int .u64 kn.wd, .int .u64 kn.vr, .int .i64 kn.n.lv, .string kn.n.lo, .string kn.n.hi, .bool kn.n.la, .int .i64 kn.n.nx, .slice ak kn.n.ks.length ck, .slice av kn.n.vs.length cv, .slice ac kn.n.cs.length cc] ∧ PO w B (.slice ak kn.n.ks.length ck) (.slice av kn.n.vs.length cv) (.slice ac kn.n.cs.length cc) kn ∧ NdAt w ak av ac kn.n.ks.length ck kn.n.vs.length cv kn.n.cs.length cc kn.n.ks kn.n.vs kn.n.cs := by
  obtain ⟨kv, vv, cw, rfl, h1, h2, h3⟩ := id h
  obtain ⟨ak, ck, rfl⟩ := h1.open
  obtain ⟨av, cv, rfl⟩ := h2.open
  obtain ⟨ac, cc, rfl⟩ := h3.open
  have r1 := h1.rd
  have r2 := h2.rd
  have r3 := h3.rd
  rw [List.length_map] at h r1
  rw [List.length_map] at h r2
  rw [List.length_map] at h r3
  exact ⟨ak, av, ac, ck, cv, cc, by simp only [List.length_map, Kn.val], h, ⟨r1, r2, r3⟩⟩

theorem last_at {cs : List Int} {x : Int} (h : lastF cs = some x) : ∃ j, j < cs.length ∧ x = ni cs j := by
  unfold lastF at h
  split at h
  · cases h
  · injection h with h
    exact ⟨cs.length - 1, by omega, h.symm⟩
theorem bdn (w : World) (n : Nat) : Below w.heap.size w (w.drewN n) := ⟨rfl, rfl, rfl, Nat.le_refl _, fun _ _ => rfl⟩
theorem PO.nd {w : World} {B : Nat} {ak av ac : Option Addr} {ck cv cc : Nat} {kn : Kn} (h : PO w B (.slice ak kn.n.ks.length ck) (.slice av kn.n.vs.length cv) (.slice ac kn.n.cs.length cc) kn) : NdAt w ak av ac kn.n.ks.length ck kn.n.vs.length cv kn.n.cs.length cc kn.n.ks kn.n.vs kn.n.cs := by
  obtain ⟨kv, vv, cw, e, h1, h2, h3⟩ := h
  unfold Kn.val at e
  injection e with e
  injection e with e
  simp only [List.cons.injEq, and_true, true_and] at e
  obtain ⟨rfl, rfl, rfl⟩ := e
  exact ⟨h1.rd, h2.rd, h3.rd⟩
/-- No row of a node lies in a row of what is known. -/
theorem off_row {w : World} {C n : Nat} {v : Value} {xs : List Value} (h : w.ownsRow C 43 11 v n xs) : Off w (fun j => v.ownBlock = some j) := by
  intro g cs t hS hg
  obtain ⟨_, cs', e'⟩ := fv_block h hS
  rw [e'] at hg
  injection hg with hg
  injection hg with _ e _
  subst e
  decide
theorem All2.kl {P Q : Value → Value → Value → Kn → Prop} {ls : List (List Value)} {ks : List Kn} (h : All2 (KL P) ls ks) (hPQ : ∀ a b c kn, P a b c kn → Q a b c kn) : All2 (KL Q) ls ks := by
  induction h with
  | nil => exact .nil
  | cons h _ ih => exact .cons (h.mono (fun a b c => hPQ a b c _)) ih

end Go.Proofs.Ytdbklklmpnlinaa

namespace Go.Proofs.Ytdbklklmpnlinaa
open Go.RowKit Go.Maps

end Go.Proofs.Ytdbklklmpnlinaa

namespace Go.Proofs.Ytdbklklmpnlinaa
open Go.RowKit Go.Maps

end Go.Proofs.Ytdbklklmpnlinaa

namespace Go.Proofs.Ytdbklklmpnlinaa
open Go.RowKit Go.Maps

theorem DownSays.from {kind M : Nat} {k : ByteArray} {ks : List Kn} {w w1 w' : World} {A b B N : Nat} {sv : Value} {ss : List (Int × Int)} {kk mm : Int} {e : Ending} (h : DownSays kind k ks M w1 w' B A b N sv ss kk mm e) (hb : Below w.heap.size w w1) : DownSays kind k ks M w w' B A b N sv ss kk mm e := by
  obtain ⟨ao, n, c, ok, k', m', h1, h2, h3, h4⟩ := h
  refine ⟨ao, n, c, ok, k', m', h1, h2, (Turn.of hb).trans h3, fun hs => ?_⟩
  have h5 := h4 hs
  unfold Ends at h5 ⊢
  split at h5
  · obtain ⟨a1, a2, a3, a4⟩ := h5
    exact ⟨a1, a2, a3, a4.base hb.size⟩
  · exact h5
  · exact h5
def kindN (kind : Int) : Nat := if kind = 1 then 1 else if kind = 2 then 2 else 0
section
variable {A b B N : Nat} {sv : Value} {ks : List Kn} {ss : List (Int × Int)} {kk mm : Int}
end
end Go.Proofs.Ytdbklklmpnlinaa

namespace Go.Proofs.Ytdbklklmpnlinaa
open Go.RowKit Go.Maps

/-- A kid is told, or none. -/
def KidIs (w w' : World) (e : Ending) (o : Option Int) : Prop := ∃ (x : Int) (b : Bool), e = .returned (.tuple #[.int .i64 x, .bool b]) ∧ o = (if b then some x else none) ∧ Below w.heap.size w w'
def atI (o : Option Nat) : Int := match o with | none => -1 | some a => a
theorem kidP_less {below : Bool} {ks : List ByteArray} {k : ByteArray} {i : Nat} (h : lss (nth ks i).data.toList k.data.toList = true) : kidP below ks k i = true := by
  unfold kidP
  cases below with
  | true => simp only [if_true]; unfold pFind; rw [h]; rfl
  | false => simp only [Bool.false_eq_true, if_false]; unfold pFloor; rw [lss_asymm _ _ h]; rfl
theorem kidP_below {ks : List ByteArray} {k : ByteArray} {i : Nat} (h : lss (nth ks i).data.toList k.data.toList = false) : kidP true ks k i = false := by
  unfold kidP
  simp only [if_true]; unfold pFind; rw [h]; rfl
theorem kidP_eq {ks : List ByteArray} {k : ByteArray} {i : Nat} (h : nth ks i = k) : kidP false ks k i = true := by
  unfold kidP
  simp only [Bool.false_eq_true, if_false]; unfold pFloor; rw [h, lss_irrefl]; rfl
theorem kidP_ne {ks : List ByteArray} {k : ByteArray} {i : Nat} (h : lss (nth ks i).data.toList k.data.toList = false) (hn : nth ks i ≠ k) : kidP false ks k i = false := by
  unfold kidP
  simp only [Bool.false_eq_true, if_false]; unfold pFloor
  cases hl : lss k.data.toList (nth ks i).data.toList with
  | true => rfl
  | false =>
    exfalso
    have e := lss_total _ _ h hl
    exact hn (ByteArray.ext (by rw [← Array.toList_inj]; exact e))
theorem lastI_yes {p : Nat → Bool} {i : Nat} (h : p i = true) : atI (lastI p (i + 1)) = i := by unfold lastI; rw [if_pos h]; rfl
theorem lastI_no {p : Nat → Bool} {i : Nat} (h : p i = false) : atI (lastI p (i + 1)) = atI (lastI p i) := by rw [lastI, if_neg (by rw [h]; simp)]
theorem lastI_lt {p : Nat → Bool} : ∀ {n a : Nat}, lastI p n = some a → a < n
  | 0, _, h => by cases h
  | n + 1, a, h => by
    unfold lastI at h
    split at h
    · injection h with h; omega
    · exact Nat.lt_succ_of_lt (lastI_lt h)

end Go.Proofs.Ytdbklklmpnlinaa

namespace Go.Proofs.Ytdbklklmpnlinaa
open Go.RowKit Go.Maps

def PartIs (w w' : World) (e : Ending) (on ay : Bool) : Prop := e = .returned (.tuple #[.bool on, .bool (!on && !ay)]) ∧ Below w.heap.size w w'
end Go.Proofs.Ytdbklklmpnlinaa

namespace Go.Proofs.Ytdbklklmpnlinaa
open Go.RowKit Go.Maps

theorem setCell_same19 {w : World} {g i : Nat} {t : TypeId} {cs : Array Value} {v : Value} (h : BX w g t cs) (hv : cs[i]? = some v) : w.setCell ⟨g, i, none⟩ v = w := by
  have e : cs.setIfInBounds i v = cs := by
    obtain ⟨hi, he⟩ := Array.getElem?_eq_some_iff.1 hv
    apply Array.ext_getElem?
    intro j
    rw [Array.getElem?_setIfInBounds]
    by_cases hij : i = j
    · subst hij
      simp [hi, he]
    · simp [hij]
  have h2 : (w.setCell ⟨g, i, none⟩ v).heap = w.heap := by
    apply Array.ext_getElem?
    intro j
    by_cases hj : j = g
    · subst hj
      rw [heap_setCell_same w j i cs t v h, e]
      exact h.symm
    · exact Below.heap_setCell _ _ _ _ hj
  show ({ w with heap := (w.setCell ⟨g, i, none⟩ v).heap } : World) = w
  rw [h2]
theorem PV.nd {w : World} {ak av ac : Option Addr} {nk ck nv cv nc cc : Nat} {kn : Kn} (h : PV w (.slice ak nk ck) (.slice av nv cv) (.slice ac nc cc) kn) : nk = kn.n.ks.length ∧ nv = kn.n.vs.length ∧ nc = kn.n.cs.length ∧ NdAt w ak av ac nk ck nv cv nc cc kn.n.ks kn.n.vs kn.n.cs := by
  obtain ⟨ak', av', ac', ck', cv', cc', e, hN⟩ := h
  unfold Kn.val at e
  injection e with e
  injection e with e
  simp only [List.cons.injEq, Value.slice.injEq, and_true, true_and] at e
  obtain ⟨⟨rfl, rfl, rfl⟩, ⟨rfl, rfl, rfl⟩, rfl, rfl, rfl⟩ := e
  exact ⟨rfl, rfl, rfl, hN⟩
/-- What the document's way tells. -/
def WayGives (w0 : World) (kind : Nat) (k : ByteArray) (ks : List Kn) (M : Nat) (w w' : World) (e : Ending) (ao : Option Addr) (n c : Nat) (so : Option Addr) (sn sc : Nat) (kk mm : Int) : Prop :=
  ∃ (oo : Option Addr) (on oc : Nat) (ok : Bool) (k' m' : Int), e = .returned (.tuple #[.agg #[.slice ao n c, .slice so sn sc, .int .i64 k', .int .i64 m'], .slice oo on oc, .bool ok]) ∧ Below w.heap.size w w' ∧
    match runW kind k ks M ⟨0, -1, []⟩ with
    | .done l => ok = true ∧ k' = kk ∧ m' = mm ∧ KsR (PV w0) w' w.heap.size (.slice oo on oc) l
    | .miss cell => ok = false ∧ on = 0 ∧ k' = lackK kk (cellB cell) 1 ∧ m' = lackM kk mm (cellB cell) cell
    | .lost => ok = false ∧ on = 0 ∧ k' = lackK kk false 0 ∧ m' = lackM kk mm false 0

end Go.Proofs.Ytdbklklmpnlinaa

namespace Go.Proofs.Ytdbklklmpnlinaa
open Go.RowKit Go.Maps

theorem wf_cell {c : Int} (h : cellB c = true) : (Lit.int .i64 c).wf = true := by
  rw [cellB_iff] at h
  have h1 : IntKind.i64.min = -9223372036854775808 := by decide
  have h2 : IntKind.i64.max = 9223372036854775807 := by decide
  unfold Lit.wf
  rw [Bool.and_eq_true, decide_eq_true_iff, decide_eq_true_iff, h1, h2]
  omega
section
variable {B A b N : Nat} {sv : Value} {ks : List Kn} {ss : List (Int × Int)} {k m : Int}
theorem learn_out (kn : Kn) (v : Value) (w : World) (hcell : cellB kn.c = false) (h : FV w B A b sv N ks ss k m) (hv : KnV w v kn) :
    Calls Try.prog 70 #[.pointer (some ⟨A, 0, none⟩), v] w fun e w' => e = .returned (.bool false) ∧ FV w' B A b sv N ks ss k m ∧ Below w.heap.size w w' := by
  obtain ⟨ak, av, ac, ck, cv, cc, rfl, hNd⟩ := hv
  unfold Kn.val
  have hx := boxed_below w (.cells #[.int .i64 kn.c, .int .u64 kn.wd, .int .u64 kn.vr, .int .i64 kn.n.lv, .string kn.n.lo, .string kn.n.hi, .bool kn.n.la, .int .i64 kn.n.nx, .slice ak kn.n.ks.length ck, .slice av kn.n.vs.length cv, .slice ac kn.n.cs.length cc] 43)
  have n1 := BX.new w 43 #[.int .i64 kn.c, .int .u64 kn.wd, .int .u64 kn.vr, .int .i64 kn.n.lv, .string kn.n.lo, .string kn.n.hi, .bool kn.n.la, .int .i64 kn.n.nx, .slice ak kn.n.ks.length ck, .slice av kn.n.vs.length cv, .slice ac kn.n.cs.length cc]
  obtain ⟨W1, hW1⟩ : ∃ W, W = w.alloc (.cells #[.int .i64 kn.c, .int .u64 kn.wd, .int .u64 kn.vr, .int .i64 kn.n.lv, .string kn.n.lo, .string kn.n.hi, .bool kn.n.la, .int .i64 kn.n.nx, .slice ak kn.n.ks.length ck, .slice av kn.n.vs.length cv, .slice ac kn.n.cs.length cc] 43) := ⟨_, rfl⟩
  rw [← hW1] at hx n1
  have hm1 := h.keep hx
  have HI := Lib.hid (isMade_yes A b _ k m _ hm1.view)
  have HCE := Lib.hid (fun W => fcell_any kn.c W)
  rw [hcell] at HCE
  have HM := Lib.hid hm1
  have HX := Lib.hid hx
  have HW := Lib.hid hW1
  have k0 : W1.cell? ⟨w.heap.size, 0, none⟩ = some (.int .i64 kn.c) := n1.cell 0 rfl
  clear hx hm1 h n1 hW1 hcell hNd
  go_enter Try.func70, Try.ntmps70
  go_upto_region 1 with fail
  rw [← HW.out]
  clear HW
  go_wp2_with fail
  refine HI.out.mono ?_
  rintro e w3 ⟨rfl, h3⟩
  rw [← h3]
  clear h3
  go_wp2_with fail
  refine (HCE.out _).mono ?_
  rintro e w4 ⟨rfl, h4⟩
  rw [← h4]
  clear h4
  go_wp2
  go_ret
  exact ⟨rfl, HM.out, HX.out⟩
end
/-- What is known behind a learning. -/
def learnK (vs : List Kn) (k : Kn) : List Kn := if cellB k.c = true then kdrop vs k.c ++ [k] else vs
def learnAll (ks : List Kn) : List Kn := ks.foldl learnK []
theorem learnK_len (vs : List Kn) (k : Kn) : (learnK vs k).length ≤ vs.length + 1 := by
  unfold learnK
  split
  · rw [List.length_append, List.length_singleton]
    have := kdrop_le vs k.c
    omega
  · omega
theorem learnK_mem {vs : List Kn} {k x : Kn} (h : x ∈ learnK vs k) : x ∈ vs ∨ x = k := by
  unfold learnK at h
  split at h
  · rcases List.mem_append.1 h with h | h
    · exact Or.inl (List.mem_filter.1 h).1
    · exact Or.inr (List.mem_singleton.1 h)
  · exact Or.inl h
theorem learn_more {ks : List Kn} {i : Nat} (h : i < ks.length) : learnAll (ks.take (i + 1)) = learnK (learnAll (ks.take i)) (kAt ks i) := by
  unfold learnAll
  rw [List.take_succ_eq_append_getElem h, List.foldl_append, kAt_eq h]
  rfl
theorem learnAll_len (ks : List Kn) : (learnAll ks).length ≤ ks.length := by
  have : ∀ (l vs : List Kn), (l.foldl learnK vs).length ≤ vs.length + l.length := by
    intro l
    induction l with
    | nil => intro vs; exact Nat.le_refl _
    | cons k l ih =>
      intro vs
      have h1 := ih (learnK vs k)
      have h2 := learnK_len vs k
      simp only [List.foldl_cons, List.length_cons]
      omega
  have h := this ks []
  simpa [learnAll] using h
theorem learnAll_mem {ks : List Kn} {x : Kn} (h : x ∈ learnAll ks) : x ∈ ks := by
  have : ∀ (l vs : List Kn), x ∈ l.foldl learnK vs → x ∈ vs ∨ x ∈ l := by
    intro l
    induction l with
    | nil => intro vs h; exact Or.inl h
    | cons k l ih =>
      intro vs h
      rcases ih _ h with h | h
      · rcases learnK_mem h with h | rfl
        · exact Or.inl h
        · exact Or.inr (List.mem_cons_self ..)
      · exact Or.inr (List.mem_cons_of_mem _ h)
  rcases this ks [] h with h | h
  · cases h
  · exact h
theorem kAt_mem {ks : List Kn} {i : Nat} (h : i < ks.length) : kAt ks i ∈ ks := by rw [kAt_eq h]; exact List.getElem_mem h

set_option maxHeartbeats 4000000 in
set_option maxRecDepth 100000 in
theorem view_says (w0 : World) (ao : Option Addr) (n c : Nat) (ks : List Kn) (w : World) (h0 : Below w0.heap.size w0 w) (h : KsAt (PV w0) w (.slice ao n c) ks) (hok : ∀ kn ∈ ks, NodOk kn.n) (hn : n ≤ 1000000) :
    Calls Try.prog 38 #[.slice ao n c] w fun e w' => ∃ A b N, e = .returned (.pointer (some ⟨A, 0, none⟩)) ∧ FV w' w.heap.size A b (.slice none 0 0) N (learnAll ks) [] 0 0 ∧ Below w.heap.size w w' := by
  have HNew := Lib.hid (new_fv w)
  have hl := h.len
  have HL := Lib.hid hl.1
  have HK := Lib.hid h
  have HOK := Lib.hid hok
  have H0 := Lib.hid h0
  have hl2 := hl.2
  clear h hok h0 hl
  go_enter Try.func38, Try.ntmps38
  go_wp2_with fail
  refine HNew.out.mono ?_
  rintro e w1 ⟨A, b, rfl, hf, hb⟩
  have HF := Lib.hid hf
  have HB1 := Lib.hid hb
  clear hf hb HNew
  go_wp2
  go_loopw [9] (fun s wr => ∃ (i N : Nat), s = .int .i64 i ∧ i ≤ n ∧ N ≤ i ∧ Hid (FV wr w.heap.size A b (.slice none 0 0) N (learnAll (ks.take i)) [] 0 0 ∧ Below w.heap.size w wr)) (fun s _ => n - (intOf s).toNat)
  case atStart => exact ⟨0, 0, rfl, Nat.zero_le _, Nat.le_refl _, Lib.hid ⟨HF.out, HB1.out⟩⟩
  case round =>
    obtain ⟨i, N, rfl, hi, hN, HV⟩ := hrel
    by_cases hlt : i < n
    · obtain ⟨g, o, ak, nk, ck, av, nv, cv, ac, nc, cc, rfl, hP, hc⟩ := HK.out.get hlt
      have hil : i < ks.length := by have := HL.out; omega
      have hmore := learn_more hil
      have hno := HOK.out _ (kAt_mem hil)
      obtain ⟨kn, hkn⟩ : ∃ kn, kn = kAt ks i := ⟨_, rfl⟩
      rw [← hkn] at hc hP hmore hno
      obtain ⟨rfl, rfl, rfl, hnd⟩ := hP.nd
      obtain ⟨q0, q1, q2, q3, q4, q5, q6, q7, q8, q9, q10⟩ := hc _ HV.out.2
      have hlt' : (i : Int) < n := by omega
      have hx := boxed_below wr (.cells #[.int .i64 kn.c, .int .u64 kn.wd, .int .u64 kn.vr, .int .i64 kn.n.lv, .string kn.n.lo, .string kn.n.hi, .bool kn.n.la, .int .i64 kn.n.nx, .slice ak kn.n.ks.length ck, .slice av kn.n.vs.length cv, .slice ac kn.n.cs.length cc] 43)
      obtain ⟨W2, hW2⟩ : ∃ W, W = wr.alloc (.cells #[.int .i64 kn.c, .int .u64 kn.wd, .int .u64 kn.vr, .int .i64 kn.n.lv, .string kn.n.lo, .string kn.n.hi, .bool kn.n.la, .int .i64 kn.n.nx, .slice ak kn.n.ks.length ck, .slice av kn.n.vs.length cv, .slice ac kn.n.cs.length cc] 43) := ⟨_, rfl⟩
      rw [← hW2] at hx
      have hf2 := HV.out.1.keep hx
      have hb2 := HV.out.2.trans (hx.mono HV.out.2.size)
      have hkv : KnV W2 (kn.val (.slice ak kn.n.ks.length ck) (.slice av kn.n.vs.length cv) (.slice ac kn.n.cs.length cc)) kn := ⟨ak, av, ac, ck, cv, cc, rfl, hnd.keep (H0.out.trans (hb2.mono H0.out.size))⟩
      have HW2 := Lib.hid hW2
      have HM := Lib.hid hmore
      cases hcell : cellB kn.c with
      | true =>
        have HLR := Lib.hid (learn_fv kn _ W2 (wf_cell hcell) hcell (by omega) hf2 hkv ⟨by have := hno.n1; omega, by have := hno.n2; omega, by have := hno.n3; omega⟩)
        unfold Kn.val at HLR
        have HE := Lib.hid (show learnK (learnAll (ks.take i)) kn = kdrop (learnAll (ks.take i)) kn.c ++ [kn] by unfold learnK; rw [if_pos hcell])
        have HBB := Lib.hid hb2
        have HFB := Lib.hid (show (∀ g, VS A b (.slice none 0 0) g → w.heap.size ≤ g) ∧ w.heap.size ≤ W2.heap.size from ⟨hf2.base, hb2.size⟩)
        clear hkv hf2 hb2 hx hW2 hmore hno hnd hP hc hcell hkn
        go_wp2_with fail
        rw [← HW2.out]
        refine HLR.out.mono ?_
        rintro e w5 ⟨rfl, hf5, ht5⟩
        have HF5 := Lib.hid hf5
        have HB5 := Lib.hid (HBB.out.trans (ht5.below HFB.out.1 HFB.out.2))
        clear hf5 ht5 q0 q1 q2 q3 q4 q5 q6 q7 q8 q9 q10
        go_wp2
        go_roundw
        case rel => exact ⟨i + 1, N + 1, by go_num, by omega, by omega, Lib.hid ⟨by rw [HM.out, HE.out]; exact HF5.out, HB5.out⟩⟩
        case measure => simp [intOf]; omega
      | false =>
        have HLR := Lib.hid (learn_out kn _ W2 hcell hf2 hkv)
        unfold Kn.val at HLR
        have HE := Lib.hid (show learnK (learnAll (ks.take i)) kn = learnAll (ks.take i) by unfold learnK; rw [if_neg (by rw [hcell]; simp)])
        have HBB := Lib.hid hb2
        clear hkv hf2 hb2 hx hW2 hmore hno hnd hP hc hcell hkn
        go_wp2_with fail
        rw [← HW2.out]
        refine HLR.out.mono ?_
        rintro e w5 ⟨rfl, hf5, hb5⟩
        have HF5 := Lib.hid hf5
        have HB5 := Lib.hid (HBB.out.trans (hb5.mono HBB.out.size))
        clear hf5 hb5 q0 q1 q2 q3 q4 q5 q6 q7 q8 q9 q10
        go_wp2
        go_roundw
        case rel => exact ⟨i + 1, N, by go_num, by omega, by omega, Lib.hid ⟨by rw [HM.out, HE.out]; exact HF5.out, HB5.out⟩⟩
        case measure => simp [intOf]; omega
    · obtain rfl : i = n := by omega
      have HA := Lib.hid (show ks.take i = ks by rw [HL.out]; exact List.take_length)
      go_wp2
      go_ret
      exact ⟨A, b, N, rfl, by have h := HV.out.1; rw [HA.out] at h; exact h, HV.out.2⟩


/-- Is each small, and are there few? -/
def LightK (ks : List Kn) : Prop := (∀ kn ∈ ks, LightP kn.n.lo kn.n.hi kn.n.ks.length kn.n.vs.length kn.n.cs.length kn.n.ks) ∧ ks.length ≤ 40
set_option maxHeartbeats 4000000 in
set_option maxRecDepth 100000 in
theorem light15_any (w0 : World) (ao : Option Addr) (n c : Nat) (ks : List Kn) (w : World) (h0 : Below w0.heap.size w0 w) (h : KsAt (PV w0) w (.slice ao n c) ks) :
    Calls Try.prog 6 #[.slice ao n c] w fun e w' => EveryGives w w' e (LightK ks) := by
  have hl := h.len
  have HL := Lib.hid hl.1
  have HK := Lib.hid h
  have H0 := Lib.hid h0
  have hl2 := hl.2
  clear h h0 hl
  go_enter Try.func6, Try.ntmps6
  go_wp2
  go_loopw [7] (fun s wr => ∃ (i : Nat), s = .int .i64 i ∧ i ≤ n ∧ Hid (Below w.heap.size w wr ∧ ∀ j, j < i → LightP (kAt ks j).n.lo (kAt ks j).n.hi (kAt ks j).n.ks.length (kAt ks j).n.vs.length (kAt ks j).n.cs.length (kAt ks j).n.ks)) (fun s _ => n - (intOf s).toNat)
  case atStart => exact ⟨0, rfl, Nat.zero_le _, Lib.hid ⟨Below.refl _ _, fun j hj => absurd hj (Nat.not_lt_zero _)⟩⟩
  case round =>
    obtain ⟨i, rfl, hi, HV⟩ := hrel
    by_cases hlt : i < n
    · obtain ⟨g, o, ak, nk, ck, av, nv, cv, ac, nc, cc, rfl, hP, hc⟩ := HK.out.get hlt
      have hil : i < ks.length := by have := HL.out; omega
      obtain ⟨kn, hkn⟩ : ∃ kn, kn = kAt ks i := ⟨_, rfl⟩
      rw [← hkn] at hc hP
      obtain ⟨rfl, rfl, rfl, hnd⟩ := hP.nd
      obtain ⟨q0, q1, q2, q3, q4, q5, q6, q7, q8, q9, q10⟩ := hc _ HV.out.1
      have hlt' : (i : Int) < n := by omega
      have hx := boxed_below wr (.cells #[.int .i64 kn.c, .int .u64 kn.wd, .int .u64 kn.vr, .int .i64 kn.n.lv, .string kn.n.lo, .string kn.n.hi, .bool kn.n.la, .int .i64 kn.n.nx, .slice ak kn.n.ks.length ck, .slice av kn.n.vs.length cv, .slice ac kn.n.cs.length cc] 43)
      obtain ⟨W2, hW2⟩ : ∃ W, W = wr.alloc (.cells #[.int .i64 kn.c, .int .u64 kn.wd, .int .u64 kn.vr, .int .i64 kn.n.lv, .string kn.n.lo, .string kn.n.hi, .bool kn.n.la, .int .i64 kn.n.nx, .slice ak kn.n.ks.length ck, .slice av kn.n.vs.length cv, .slice ac kn.n.cs.length cc] 43) := ⟨_, rfl⟩
      rw [← hW2] at hx
      have hb2 := HV.out.1.trans (hx.mono HV.out.1.size)
      have hnd2 := hnd.keep (H0.out.trans (hb2.mono H0.out.size))
      have HQ := Lib.hid (nlight_any kn.n.lv kn.n.nx kn.n.lo kn.n.hi kn.n.la ak av ac kn.n.ks.length ck kn.n.vs.length cv kn.n.cs.length cc kn.n.ks W2 hnd2.k (by have := (rd_len hnd2.v).2; omega) (by have := (rd_len hnd2.c).2; omega))
      have HW2 := Lib.hid hW2
      have HBB := Lib.hid hb2
      have HKN := Lib.hid hkn
      have HIL := Lib.hid hil
      clear hx hW2 hb2 hnd hnd2 hP hc hkn hil
      go_wp2_with fail
      rw [← HW2.out]
      refine HQ.out.mono ?_
      rintro e w5 ⟨r, rfl, hr, hb5⟩
      have HR := Lib.hid hr
      have HB5 := Lib.hid (HBB.out.trans (hb5.mono HBB.out.size))
      clear hr hb5 q0 q1 q2 q3 q4 q5 q6 q7 q8 q9 q10
      cases r with
      | true =>
        go_wp2
        go_roundw
        case rel => exact ⟨i + 1, by go_num, by omega, Lib.hid ⟨HB5.out, fun j hj => by
          by_cases e : j = i
          · subst e; rw [← HKN.out]; exact HR.out.1 (by first | rfl | trivial)
          · exact HV.out.2 j (by omega)⟩⟩
        case measure => simp [intOf]; omega
      | false =>
        go_wp2
        go_ret
        exact ⟨false, rfl, ⟨fun h => (by cases h), fun h => by
          have := HR.out.2 (by rw [HKN.out]; exact h.1 _ (kAt_mem HIL.out))
          cases this⟩, HB5.out⟩
    · obtain rfl : i = n := by omega
      have HALL := Lib.hid (show ∀ kn ∈ ks, LightP kn.n.lo kn.n.hi kn.n.ks.length kn.n.vs.length kn.n.cs.length kn.n.ks from fun kn hm => by
        obtain ⟨j, hj, rfl⟩ := List.mem_iff_getElem.1 hm
        have h := HV.out.2 j (by have := HL.out; omega)
        rw [kAt_eq hj] at h
        exact h)
      by_cases h40 : i ≤ 40
      · have h40' : (i : Int) ≤ 40 := by omega
        go_wp2
        go_ret
        exact ⟨true, rfl, ⟨fun _ => ⟨HALL.out, by have := HL.out; omega⟩, fun _ => rfl⟩, HV.out.1⟩
      · have h40' : ¬ (i : Int) ≤ 40 := by omega
        go_wp2
        go_ret
        exact ⟨false, rfl, ⟨fun h => (by cases h), fun h => by have := HL.out; have := h.2; omega⟩, HV.out.1⟩

end Go.Proofs.Ytdbklklmpnlinaa
