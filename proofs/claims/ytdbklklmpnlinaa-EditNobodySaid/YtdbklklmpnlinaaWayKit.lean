/- A way's pure course (the document's); find's closures. Conditions: sizes that fit. A way's invariant, round by round. No walk. -/
import Derived.Test.YtdbklklmpnlinaaKidW
import Derived.Test.YtdbklklmpnlinaaFvMade
import Derived.Test.YtdbklklmpnlinaaKnRow
namespace Go.Proofs.Ytdbklklmpnlinaa
open Go.RowKit Go.Maps

theorem bytesLess_lss : ∀ (a b : List UInt8), Op.bytesLess a b = lss a b
  | [], [] => rfl
  | [], _ :: _ => rfl
  | _ :: _, [] => rfl
  | x :: a, y :: b => by
    have ih := bytesLess_lss a b
    by_cases e : x = y
    · subst e
      simp only [Op.bytesLess, lss, if_pos, beq_self_eq_true, Bool.true_and, ih]
      simp
    · simp only [Op.bytesLess, lss, if_neg e]
      rw [show (x == y) = false from beq_eq_false_iff_ne.2 e, Bool.false_and, Bool.or_false]
      rfl
theorem strLess (a b : ByteArray) : Op.bytesLess a.toList b.toList = lss a.data.toList b.data.toList := by
  rw [bytesLess_lss, ByteArray.toList_eq, ByteArray.toList_eq]

theorem lss_leq : ∀ (a b : List UInt8), (lss a b || a == b) = !lss b a
  | [], [] => rfl
  | [], _ :: _ => rfl
  | _ :: _, [] => rfl
  | x :: a, y :: b => by
    have ih := lss_leq a b
    by_cases e : x = y
    · subst e
      simp only [lss, if_pos]
      rw [← ih]
      simp
    · have e' : ¬ y = x := fun h => e h.symm
      simp only [lss, if_neg e, if_neg e']
      rw [show (x :: a == y :: b) = false from beq_eq_false_iff_ne.2 (fun h => e (by injection h)), Bool.or_false]
      have hne : x.toNat ≠ y.toNat := fun h => e (UInt8.toNat_inj.1 h)
      by_cases h : x.toNat < y.toNat
      · rw [decide_eq_true h, decide_eq_false (by omega)]; rfl
      · rw [decide_eq_false h, decide_eq_true (by omega)]; rfl
theorem run_leq_str (a b : ByteArray) (W : World) : (binOp .leq 9 (.string a) (.string b)).run Try.prog W = .ok (.bool (!lss b.data.toList a.data.toList)) W := by
  have h : (Op.bytesLess a.toList b.toList || a.toList == b.toList) = !lss b.data.toList a.data.toList := by
    rw [bytesLess_lss, lss_leq, ByteArray.toList_eq, ByteArray.toList_eq]
  simp only [binOp, Op.stringOp]
  rw [h]
  rfl
/-- Of a node that is met: is it one of the way; is what is sought left of it; its kid. Kinds: 0 for a text, 1 below it, 2 at the end. -/
def onF (kind : Nat) (k : ByteArray) (n : Nod) : Bool := match kind with
  | 0 => insideB n.lo.data.toList n.hi.data.toList n.la k.data.toList
  | 1 => beneathB n.lo.data.toList n.hi.data.toList n.la k.data.toList
  | _ => n.la
def astrayF (kind : Nat) (k : ByteArray) (n : Nod) : Bool := match kind with
  | 0 => lss k.data.toList n.lo.data.toList
  | 1 => !lss n.lo.data.toList k.data.toList
  | _ => false
def lastF (cs : List Int) : Option Int := if cs.length = 0 then none else some (ni cs (cs.length - 1))
def kidOf (kind : Nat) (k : ByteArray) (n : Nod) : Option Int := match kind with
  | 0 => kidF false n.ks n.cs k
  | 1 => kidF true n.ks n.cs k
  | _ => lastF n.cs
theorem on_not_astray (kind : Nat) (k : ByteArray) (n : Nod) (h : onF kind k n = true) : astrayF kind k n = false := by
  unfold onF at h
  unfold astrayF
  split at h
  · unfold insideB at h
    simp only [Bool.and_eq_true, Bool.not_eq_true'] at h
    exact h.1
  · unfold beneathB at h
    simp only [Bool.and_eq_true] at h
    simp [h.1]
  · rfl

inductive Out
  | miss (c : Int)
  | lost
  | done (l : List Kn)
structure St where
  c : Int
  lv : Int
  acc : List Kn
/-- One node that is met. -/
def stepW (kind : Nat) (k : ByteArray) (ks : List Kn) (s : St) : Out ⊕ St :=
  match kfind ks s.c with
  | none => .inl (.miss s.c)
  | some kn =>
    if (0 ≤ s.lv ∧ kn.n.lv ≠ s.lv) ∨ astrayF kind k kn.n = true then .inl .lost
    else if onF kind k kn.n = false then .inr ⟨kn.n.nx, kn.n.lv, s.acc⟩
    else if kn.n.lv ≤ 0 then .inl (.done (s.acc ++ [kn]))
    else match kidOf kind k kn.n with
      | none => .inl .lost
      | some c => .inr ⟨c, kn.n.lv - 1, s.acc ++ [kn]⟩
def runW (kind : Nat) (k : ByteArray) (ks : List Kn) : Nat → St → Out
  | 0, _ => .lost
  | n + 1, s => match stepW kind k ks s with
    | .inl o => o
    | .inr s' => runW kind k ks n s'
theorem runW_out {kind : Nat} {k : ByteArray} {ks : List Kn} {s : St} {o : Out} {n : Nat} (h : stepW kind k ks s = .inl o) (hn : 0 < n) : runW kind k ks n s = o := by
  cases n with
  | zero => omega
  | succ n => unfold runW; rw [h]
theorem runW_next {kind : Nat} {k : ByteArray} {ks : List Kn} {s s' : St} {n : Nat} (h : stepW kind k ks s = .inr s') (hn : 0 < n) : runW kind k ks n s = runW kind k ks (n - 1) s' := by
  cases n with
  | zero => omega
  | succ n => show (match stepW kind k ks s with | .inl o => o | .inr s' => runW kind k ks n s') = _; rw [h]; rfl

section
variable {w : World}
end
end Go.Proofs.Ytdbklklmpnlinaa

namespace Go.Proofs.Ytdbklklmpnlinaa
open Go.RowKit Go.Maps

def AllS (ks : List Kn) : Prop := ∀ kn ∈ ks, kn.n.Sound 64
theorem kfind_mem {ks : List Kn} {c : Int} {kn : Kn} (h : kfind ks c = some kn) : kn ∈ ks := List.mem_of_find?_eq_some h
/-- The texts and rows of a node fit; its numbers are numbers. -/
structure NodOk (n : Nod) : Prop where
  lo : n.lo.size ≤ 140737488355328
  hi : n.hi.size ≤ 140737488355328
  ks : ∀ x ∈ n.ks, x.size ≤ 140737488355328
  n1 : n.ks.length ≤ 274877906943
  n2 : n.vs.length ≤ 274877906943
  n3 : n.cs.length ≤ 274877906943
  nx : (Lit.int .i64 n.nx).wf = true
  cs : ∀ j, j < n.cs.length → (Lit.int .i64 (ni n.cs j)).wf = true
def Inv (kind : Nat) (k : ByteArray) (ks : List Kn) (M i : Nat) (c lv : Int) (acc : List Kn) : Prop :=
  AllS ks → ∃ s : St, s.c = c ∧ s.acc = acc ∧ (i = 0 → s.lv = -1) ∧ (0 < i → s.lv = lv ∧ 0 ≤ lv) ∧ runW kind k ks M ⟨0, -1, []⟩ = runW kind k ks (M - i) s
section
variable {kind : Nat} {k : ByteArray} {ks : List Kn} {M i : Nat} {c lv : Int} {acc : List Kn} {kn : Kn}
theorem Inv.start (lv : Int) : Inv kind k ks M 0 0 lv [] := fun _ => ⟨⟨0, -1, []⟩, rfl, rfl, fun _ => rfl, fun h => absurd h (Nat.lt_irrefl _), rfl⟩
theorem Inv.miss (h : Inv kind k ks M i c lv acc) (hi : i < M) (hk : kfind ks c = none) (hs : AllS ks) : runW kind k ks M ⟨0, -1, []⟩ = .miss c := by
  obtain ⟨s, rfl, rfl, _, _, h5⟩ := h hs
  rw [h5]
  exact runW_out (by unfold stepW; rw [hk]) (by omega)
theorem Inv.level (h : Inv kind k ks M i c lv acc) (hi : i < M) (hk : kfind ks c = some kn) (h0 : 0 < i) (hl : kn.n.lv ≠ lv) (hs : AllS ks) : runW kind k ks M ⟨0, -1, []⟩ = .lost := by
  obtain ⟨s, rfl, rfl, _, h4, h5⟩ := h hs
  obtain ⟨h6, h7⟩ := h4 h0
  rw [h5]
  refine runW_out ?_ (by omega)
  unfold stepW
  rw [hk]
  simp only
  rw [if_pos (Or.inl ⟨by omega, by rw [h6]; exact hl⟩)]
theorem Inv.astray (h : Inv kind k ks M i c lv acc) (hi : i < M) (hk : kfind ks c = some kn) (ha : astrayF kind k kn.n = true) (hs : AllS ks) : runW kind k ks M ⟨0, -1, []⟩ = .lost := by
  obtain ⟨s, rfl, rfl, _, h4, h5⟩ := h hs
  rw [h5]
  refine runW_out ?_ (by omega)
  unfold stepW
  rw [hk]
  simp only
  rw [if_pos (Or.inr ha)]
theorem not_first {s : St} (h3 : i = 0 → s.lv = -1) (h4 : 0 < i → s.lv = lv ∧ 0 ≤ lv) (hl : 0 < i → kn.n.lv = lv) (ha : astrayF kind k kn.n = false) : ¬ ((0 ≤ s.lv ∧ kn.n.lv ≠ s.lv) ∨ astrayF kind k kn.n = true) := by
  rintro (⟨h1, h2⟩ | h1)
  · rcases Nat.eq_zero_or_pos i with e | e
    · have := h3 e; omega
    · exact h2 ((hl e).trans (h4 e).1.symm)
  · rw [ha] at h1; cases h1
theorem Inv.over (h : Inv kind k ks M i c lv acc) (hi : i < M) (hk : kfind ks c = some kn) (hl : 0 < i → kn.n.lv = lv) (ha : astrayF kind k kn.n = false) (ho : onF kind k kn.n = false) : Inv kind k ks M (i + 1) kn.n.nx kn.n.lv acc := by
  intro hs
  obtain ⟨s, rfl, rfl, h3, h4, h5⟩ := h hs
  have hsn := hs kn (kfind_mem hk)
  refine ⟨⟨kn.n.nx, kn.n.lv, s.acc⟩, rfl, rfl, fun e => by omega, fun _ => ⟨rfl, hsn.level.1⟩, ?_⟩
  rw [h5, show M - (i + 1) = M - i - 1 by omega]
  refine runW_next ?_ (by omega)
  unfold stepW
  rw [hk]
  simp only
  rw [if_neg (not_first h3 h4 hl ha), if_pos ho]
theorem Inv.done (h : Inv kind k ks M i c lv acc) (hi : i < M) (hk : kfind ks c = some kn) (hl : 0 < i → kn.n.lv = lv) (ha : astrayF kind k kn.n = false) (ho : onF kind k kn.n = true) (hz : kn.n.lv = 0) (hs : AllS ks) : runW kind k ks M ⟨0, -1, []⟩ = .done (acc ++ [kn]) := by
  obtain ⟨s, rfl, rfl, h3, h4, h5⟩ := h hs
  rw [h5]
  refine runW_out ?_ (by omega)
  unfold stepW
  rw [hk]
  simp only
  rw [if_neg (not_first h3 h4 hl ha), if_neg (by rw [ho]; simp), if_pos (by omega)]
theorem Inv.nokid (h : Inv kind k ks M i c lv acc) (hi : i < M) (hk : kfind ks c = some kn) (hl : 0 < i → kn.n.lv = lv) (ha : astrayF kind k kn.n = false) (ho : onF kind k kn.n = true) (hz : kn.n.lv ≠ 0) (hkid : AllS ks → kidOf kind k kn.n = none) (hs : AllS ks) : runW kind k ks M ⟨0, -1, []⟩ = .lost := by
  obtain ⟨s, rfl, rfl, h3, h4, h5⟩ := h hs
  have hsn := hs kn (kfind_mem hk)
  have := hsn.level.1
  rw [h5]
  refine runW_out ?_ (by omega)
  unfold stepW
  rw [hk]
  simp only
  rw [if_neg (not_first h3 h4 hl ha), if_neg (by rw [ho]; simp), if_neg (by omega), hkid hs]
theorem Inv.kid {x z : Int} (h : Inv kind k ks M i c lv acc) (hi : i < M) (hk : kfind ks c = some kn) (hl : 0 < i → kn.n.lv = lv) (ha : astrayF kind k kn.n = false) (ho : onF kind k kn.n = true) (hz : kn.n.lv ≠ 0) (hkid : AllS ks → kidOf kind k kn.n = some x) (hzz : 0 ≤ kn.n.lv → kn.n.lv < 14 → z = kn.n.lv - 1) : Inv kind k ks M (i + 1) x z (acc ++ [kn]) := by
  intro hs
  obtain ⟨s, rfl, rfl, h3, h4, h5⟩ := h hs
  have hsn := hs kn (kfind_mem hk)
  have := hsn.level.1
  have hzz := hzz this hsn.level.2
  refine ⟨⟨x, z, s.acc ++ [kn]⟩, rfl, rfl, fun e => by omega, fun _ => ⟨rfl, by omega⟩, ?_⟩
  rw [h5, show M - (i + 1) = M - i - 1 by omega]
  refine runW_next ?_ (by omega)
  unfold stepW
  rw [hk]
  simp only
  rw [if_neg (not_first h3 h4 hl ha), if_neg (by rw [ho]; simp), if_neg (by omega), hkid hs, hzz]
theorem Inv.stop (h : Inv kind k ks M i c lv acc) (hi : M ≤ i) (hs : AllS ks) : runW kind k ks M ⟨0, -1, []⟩ = .lost := by
  obtain ⟨s, _, _, _, _, h5⟩ := h hs
  rw [h5, show M - i = 0 by omega]
  rfl
theorem kid_sound {x : Int} {b : Bool} {below : Bool} (hk : kfind ks c = some kn) (hz : kn.n.lv ≠ 0) (hx : kn.n.lv ≠ 0 → kn.n.cs.length = kn.n.ks.length → Rises kn.n.ks → kidF below kn.n.ks kn.n.cs k = if b then some x else none) (hs : AllS ks) : kidF below kn.n.ks kn.n.cs k = if b then some x else none := by
  have hsn := hs kn (kfind_mem hk)
  exact hx hz (hsn.entries.inner hz).1 hsn.keys.rise
end
/-- What going down tells. -/
def Ends (kind : Nat) (k : ByteArray) (ks : List Kn) (M : Nat) (B0 B : Nat) (kk mm : Int) (w' : World) (v : Value) (ok : Bool) (k' m' : Int) : Prop :=
  match runW kind k ks M ⟨0, -1, []⟩ with
  | .done l => ok = true ∧ k' = kk ∧ m' = mm ∧ KsR (PO w' B) w' B0 v l
  | .miss c => ok = false ∧ v = .slice none 0 0 ∧ k' = lackK kk (cellB c) 1 ∧ m' = lackM kk mm (cellB c) c
  | .lost => ok = false ∧ v = .slice none 0 0 ∧ k' = lackK kk false 0 ∧ m' = lackM kk mm false 0
def DownSays (kind : Nat) (k : ByteArray) (ks : List Kn) (M : Nat) (w w' : World) (B A b N : Nat) (sv : Value) (ss : List (Int × Int)) (kk mm : Int) (e : Ending) : Prop :=
  ∃ (ao : Option Addr) (n c : Nat) (ok : Bool) (k' m' : Int), e = .returned (.tuple #[.slice ao n c, .bool ok]) ∧ FV w' B A b sv N ks ss k' m' ∧ Turn (VS A b sv) w w' ∧ (AllS ks → Ends kind k ks M w.heap.size B kk mm w' (.slice ao n c) ok k' m')
theorem KsR.fv {w w' : World} {B C A b N : Nat} {sv v : Value} {ks l : List Kn} {ss : List (Int × Int)} {k m : Int} (h : KsR (PO w B) w C v l) (hf : FV w B A b sv N ks ss k m) (ht : Turn (VS A b sv) w w') : KsR (PO w' B) w' C v l := by
  refine (h.mono (fun a b c kn hp => hp.turn hf.off ht)).moved ht (fun g cs hS hg => ?_)
  rcases hS with rfl | rfl | hS
  · have := hf.view
    unfold BX at this
    rw [this] at hg
    injection hg with hg
    injection hg with _ e _
    exact absurd e (by decide)
  · obtain ⟨D, ⟨es, cl, hb, _⟩, _⟩ := hf.map
    rw [hb] at hg
    injection hg with hg
    cases hg
  · obtain ⟨_, cs', e'⟩ := fv_block hf.sp hS
    rw [e'] at hg
    injection hg with hg
    injection hg with _ e _
    exact absurd e (by decide)
theorem KsR.later {w w' : World} {B C : Nat} {v : Value} {l : List Kn} (h : KsR (PO w B) w C v l) (hb : Below w.heap.size w w') : KsR (PO w' B) w' C v l :=
  (h.mono (fun _ _ _ _ hp => hp.keep hb)).keep hb
end Go.Proofs.Ytdbklklmpnlinaa
