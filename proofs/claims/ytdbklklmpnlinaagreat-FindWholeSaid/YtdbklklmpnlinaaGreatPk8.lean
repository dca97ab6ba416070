/- In a tree as it should be a way goes down, level by level. No walk. In a tree as it should be: the root; the view's nodes are its nodes; the three ways. No walk. The law FindWhole, walked. Conditions: the nodes' rows are there; their numbers are numbers. -/
import Derived.Test.YtdbklklmpnlinaaGreatPk7
import Derived.Test.YtdbklklmpnlinaaGreatWayKit
import Derived.Test.YtdbklklmpnlinaaGreatFindViews
import Derived.Test.YtdbklklmpnlinaaGreatFindLives
import Derived.Deep.DeepCutAuto
namespace Go.Proofs.YtdbklklmpnlinaaGreat
open Go.RowKit Go.Maps

theorem lastI_is {p : Nat → Bool} : ∀ {n a : Nat}, lastI p n = some a → a < n ∧ p a = true ∧ ∀ i, a < i → i < n → p i = false
  | 0, _, h => by cases h
  | n + 1, a, h => by
    unfold lastI at h
    by_cases e : p n = true
    · rw [if_pos e] at h
      injection h with h
      subst h
      exact ⟨by omega, e, fun i h1 h2 => by omega⟩
    · rw [if_neg e] at h
      obtain ⟨h1, h2, h3⟩ := lastI_is h
      refine ⟨by omega, h2, fun i h4 h5 => ?_⟩
      by_cases e2 : i = n
      · rw [e2]; simpa using e
      · exact h3 i h4 (by omega)
theorem lastI_has {p : Nat → Bool} : ∀ {n j : Nat}, j < n → p j = true → ∃ a, lastI p n = some a
  | 0, _, h, _ => by omega
  | n + 1, j, h, hp => by
    unfold lastI
    by_cases e : p n = true
    · exact ⟨n, by rw [if_pos e]⟩
    · rw [if_neg e]
      exact lastI_has (j := j) (by
        by_cases e2 : j = n
        · rw [e2] at hp; exact absurd hp e
        · omega) hp
/-- The kid that is met next has the range that its entry tells, and is one of the way. -/
theorem kid_goes (kind : Nat) (k : ByteArray) (n : Nod) (hcn : n.cs.length = n.ks.length) (hpos : n.cs.length ≠ 0) (h0 : nth n.ks 0 = n.lo) (hon : onF kind k n = true) :
    ∃ i, i < n.cs.length ∧ kidOf kind k n = some (ni n.cs i) ∧ ∀ m : Nod, m.lo = nth n.ks i → m.hi = (if i + 1 < n.ks.length then nth n.ks (i + 1) else n.hi) → m.la = (if i + 1 < n.ks.length then false else n.la) → onF kind k m = true := by
  match kind, hon with
  | 0, hon =>
    unfold onF insideB at hon
    simp only [Bool.and_eq_true, Bool.not_eq_true', Bool.or_eq_true] at hon
    obtain ⟨a, ha⟩ := lastI_has (p := kidP false n.ks k) (n := min n.ks.length n.cs.length) (j := 0) (by omega) (by unfold kidP pFloor; rw [h0, hon.1]; rfl)
    obtain ⟨a1, a2, a3⟩ := lastI_is ha
    refine ⟨a, by omega, by unfold kidOf kidF; rw [ha]; rfl, fun m e1 e2 e3 => ?_⟩
    unfold kidP pFloor at a2
    simp only [Bool.false_eq_true, if_false, Bool.not_eq_true'] at a2
    unfold onF insideB
    rw [e1, a2]
    by_cases hl : a + 1 < n.ks.length
    · rw [if_pos hl] at e2
      have h4 := a3 (a + 1) (by omega) (by omega)
      unfold kidP pFloor at h4
      simp only [Bool.false_eq_true, if_false, Bool.not_eq_false'] at h4
      rw [e2, h4]
      simp
    · rw [if_neg hl] at e2 e3
      rw [e2, e3]
      rcases hon.2 with h | h <;> simp [h]
  | 1, hon =>
    unfold onF beneathB at hon
    simp only [Bool.and_eq_true, Bool.not_eq_true', Bool.or_eq_true] at hon
    obtain ⟨a, ha⟩ := lastI_has (p := kidP true n.ks k) (n := min n.ks.length n.cs.length) (j := 0) (by omega) (by unfold kidP pFind; rw [h0, hon.1]; rfl)
    obtain ⟨a1, a2, a3⟩ := lastI_is ha
    refine ⟨a, by omega, by unfold kidOf kidF; rw [ha]; rfl, fun m e1 e2 e3 => ?_⟩
    unfold kidP pFind at a2
    simp only [if_true, Bool.not_not] at a2
    unfold onF beneathB
    rw [e1, a2]
    by_cases hl : a + 1 < n.ks.length
    · rw [if_pos hl] at e2
      have h4 := a3 (a + 1) (by omega) (by omega)
      unfold kidP pFind at h4
      simp only [if_true, Bool.not_not] at h4
      rw [e2, h4]
      simp
    · rw [if_neg hl] at e2 e3
      rw [e2, e3]
      rcases hon.2 with h | h <;> simp [h]
  | _ + 2, hon =>
    refine ⟨n.cs.length - 1, by omega, by show lastF n.cs = _; unfold lastF; rw [if_neg hpos], fun m e1 e2 e3 => ?_⟩
    rw [if_neg (by omega)] at e3
    unfold onF at hon ⊢
    rw [e3]
    exact hon
theorem kfind_in {ks : List Kn} {c : Int} {kn : Kn} (h : kfind ks c = some kn) : ∃ j, j < ks.length ∧ kAt ks j = kn := by
  unfold kfind at h
  obtain ⟨j, hj, e⟩ := List.getElem_of_mem (List.mem_of_find?_eq_some h)
  exact ⟨j, hj, by rw [kAt_eq hj]; exact e⟩
/-- From a node of the way down to its leaf. -/
theorem way_goes {fan : Int} {ks : List Kn} (hw : WholeP fan ks) (kind : Nat) (k : ByteArray) : ∀ (d : Nat) (c : Int) (kn : Kn) (lv0 : Int) (acc : List Kn) (fuel : Nat), kfind ks c = some kn → kn.n.lv = d → onF kind k kn.n = true → (lv0 < 0 ∨ lv0 = d) → d < fuel →
    ∃ path : List Kn, runW kind k ks fuel ⟨c, lv0, acc⟩ = .done (acc ++ path) ∧ path.length = d + 1 ∧ ∀ i (h : i < path.length), path[i].n.lv = (d : Int) - i ∧ onF kind k path[i].n = true := by
  intro d
  induction d with
  | zero =>
    intro c kn lv0 acc fuel hk hlv hon hl0 hf
    have hstep : stepW kind k ks ⟨c, lv0, acc⟩ = .inl (.done (acc ++ [kn])) := by
      unfold stepW
      simp only [hk]
      rw [if_neg (by rw [on_not_astray kind k kn.n hon, hlv]; simp; omega), if_neg (by rw [hon]; simp), if_pos (by rw [hlv]; decide)]
    exact ⟨[kn], runW_out hstep hf, rfl, fun i h => by
      obtain rfl : i = 0 := by simpa using h
      exact ⟨by simpa using hlv, hon⟩⟩
  | succ d ih =>
    intro c kn lv0 acc fuel hk hlv hon hl0 hf
    obtain ⟨j, hj, rfl⟩ := kfind_in hk
    have hs := ((soundB_iff fan (kAt ks j).n).1 (hw.2.1.2 j hj).2.2).2
    have hen := hs.entries.inner (by rw [hlv]; omega)
    obtain ⟨i, hi, hkid, hrange⟩ := kid_goes kind k (kAt ks j).n hen.1 hen.2.1 hen.2.2.2.1 hon
    obtain ⟨h1, h2⟩ := (hw.2.2 j hj).2.1 i hi
    obtain ⟨x, hx⟩ : ∃ x, x = ni (kAt ks j).n.cs i := ⟨_, rfl⟩
    unfold strK strayP at h1
    unfold fitK fitP at h2
    rw [← hx] at h1 h2 hkid
    simp only [Bool.or_eq_false_iff, Bool.not_eq_false', decide_eq_false_iff_not, Classical.not_not, Bool.and_eq_true, decide_eq_true_eq] at h1 h2
    obtain ⟨kx, hkx⟩ := Option.isSome_iff_exists.1 h1.1
    have hnod : nodOf ks x = kx.n := by unfold nodOf; rw [hkx]
    rw [hnod] at h1 h2
    have hlx : kx.n.lv = (d : Int) := by rw [h1.2.1, hlv]; omega
    have hox := hrange kx.n h2.1.symm h2.2.1.symm h2.2.2.symm
    have hstep : stepW kind k ks ⟨c, lv0, acc⟩ = .inr ⟨x, (kAt ks j).n.lv - 1, acc ++ [kAt ks j]⟩ := by
      unfold stepW
      simp only [hk]
      rw [if_neg (by rw [on_not_astray kind k (kAt ks j).n hon, hlv]; simp; omega), if_neg (by rw [hon]; simp), if_neg (by rw [hlv]; omega), hkid]
    obtain ⟨path, hp1, hp2, hp3⟩ := ih x kx ((kAt ks j).n.lv - 1) (acc ++ [kAt ks j]) (fuel - 1) hkx hlx hox (Or.inr (by rw [hlv]; omega)) (by omega)
    refine ⟨kAt ks j :: path, ?_, by simp [hp2], fun i h => ?_⟩
    · rw [runW_next hstep (by omega), hp1, List.append_assoc]
      rfl
    · cases i with
      | zero => exact ⟨by simpa using hlv, hon⟩
      | succ i =>
        have h3 := hp3 i (by simpa using h)
        refine ⟨?_, h3.2⟩
        simp only [List.getElem_cons_succ]
        rw [h3.1]
        omega
end Go.Proofs.YtdbklklmpnlinaaGreat

namespace Go.Proofs.YtdbklklmpnlinaaGreat
open Go.RowKit Go.Maps

theorem kdrop_same {ks : List Kn} {c : Int} (h : kfind ks c = none) : kdrop ks c = ks := by
  unfold kdrop
  rw [List.filter_eq_self]
  intro k hk
  unfold kfind at h
  have h2 := List.find?_eq_none.1 h k hk
  simpa using h2
theorem learn_same {fan : Int} {ks : List Kn} (h : NdOk fan ks) : ∀ i, i ≤ ks.length → learnAll (ks.take i) = ks.take i
  | 0, _ => rfl
  | i + 1, hi => by
    rw [learn_more (by omega), learn_same h i (by omega)]
    unfold learnK
    rw [if_pos (h.2 i (by omega)).1, kdrop_same (h.one (by omega)), List.take_succ_eq_append_getElem (by omega), kAt_eq (by omega)]
theorem learnAll_same {fan : Int} {ks : List Kn} (h : NdOk fan ks) : learnAll ks = ks := by
  have := learn_same h ks.length (Nat.le_refl _)
  rwa [List.take_length] at this
theorem WholeP.root {fan : Int} {ks : List Kn} (hw : WholeP fan ks) : ∃ (kr : Kn) (d : Nat), kfind ks 0 = some kr ∧ kr.n.lo.size = 0 ∧ kr.n.la = true ∧ kr.n.lv = (d : Int) ∧ heightN ks = (d : Int) + 1 ∧ d < 14 := by
  have h1 := hw.2.1.1
  unfold cnt at h1
  obtain ⟨k0, hk0, hc0⟩ := List.countP_pos_iff.1 h1
  cases hk : kfind ks 0 with
  | none =>
    unfold kfind at hk
    exact absurd hc0 (List.find?_eq_none.1 hk k0 hk0)
  | some kr =>
    obtain ⟨j, hj, rfl⟩ := kfind_in hk
    have hc : (kAt ks j).c = 0 := by
      unfold kfind at hk
      simpa using List.find?_some hk
    have hr := (hw.2.2 j hj).1 hc
    unfold rootP at hr
    simp only [Bool.and_eq_true, decide_eq_true_eq] at hr
    have hs := ((soundB_iff fan (kAt ks j).n).1 (hw.2.1.2 j hj).2.2).2
    have h64 : soundB 64 (kAt ks j).n = true := (soundB_iff 64 _).2 ⟨by omega, hs.level, hs.range, ⟨by have := hs.keys.many; have := hw.1.2; omega, hs.keys.rise, hs.keys.inn⟩, hs.entries⟩
    have hlv := hs.level
    refine ⟨kAt ks j, (kAt ks j).n.lv.toNat, rfl, hr.1, hr.2.1, by omega, ?_, by omega⟩
    unfold heightN
    rw [hk]
    simp only [h64, if_true]
    omega
/-- A way as it should be: as many nodes as levels, each of which is one of it. -/
def WayOk (kind : Nat) (k : ByteArray) (h : Nat) (a : List Kn) : Prop := a.length = h ∧ ∀ i (hi : i < a.length), a[i].n.lv = (h : Int) - 1 - i ∧ onF kind k a[i].n = true
theorem WholeP.ways {fan : Int} {ks : List Kn} (hw : WholeP fan ks) (k : ByteArray) : ∃ h : Nat, heightN ks = (h : Int) ∧ 0 < h ∧ h ≤ 14 ∧
    (∃ a, runW 0 k ks h ⟨0, -1, []⟩ = .done a ∧ WayOk 0 k h a) ∧ (k.size ≠ 0 → ∃ b, runW 1 k ks h ⟨0, -1, []⟩ = .done b ∧ WayOk 1 k h b) ∧ (k.size = 0 → runW 1 k ks h ⟨0, -1, []⟩ = .lost) ∧ (∃ c, runW 2 k ks h ⟨0, -1, []⟩ = .done c ∧ WayOk 2 k h c) := by
  obtain ⟨kr, d, hk, hlo, hla, hlv, hh, hd⟩ := hw.root
  have hlo2 : kr.n.lo.data.toList = [] := by
    have h2 : kr.n.lo.data.size = 0 := hlo
    exact List.eq_nil_of_length_eq_zero (by rw [Array.length_toList]; exact h2)
  have mk : ∀ kind, onF kind k kr.n = true → ∃ a, runW kind k ks (d + 1) ⟨0, -1, []⟩ = .done a ∧ WayOk kind k (d + 1) a := fun kind hon => by
    obtain ⟨p, h1, h2, h3⟩ := way_goes hw kind k d 0 kr (-1) [] (d + 1) hk hlv hon (Or.inl (by decide)) (by omega)
    exact ⟨p, by rw [h1]; rfl, h2, fun i hi => ⟨by rw [(h3 i hi).1]; omega, (h3 i hi).2⟩⟩
  have hln : ∀ x : List UInt8, lss x [] = false := fun x => by cases x <;> rfl
  refine ⟨d + 1, by rw [hh]; omega, by omega, by omega, mk 0 ?_, fun hne => mk 1 ?_, fun he => ?_, mk 2 ?_⟩
  · unfold onF insideB
    rw [hlo2, hla, hln]
    rfl
  · unfold onF beneathB
    rw [hlo2, hla]
    have h2 : k.data.toList ≠ [] := fun e => hne (by
      have := congrArg List.length e
      rw [Array.length_toList] at this
      exact this)
    cases e : k.data.toList with
    | nil => exact absurd e h2
    | cons x l => rfl
  · refine runW_out ?_ (by omega)
    unfold stepW
    simp only [hk]
    rw [if_pos (Or.inr ?_)]
    unfold astrayF
    rw [show k.data.toList = [] from List.eq_nil_of_length_eq_zero (by rw [Array.length_toList]; exact he), hln]
    rfl
  · exact hla
end Go.Proofs.YtdbklklmpnlinaaGreat

namespace Go.Proofs.YtdbklklmpnlinaaGreat
open Go.RowKit Go.Maps

theorem run_in {kind : Nat} {k : ByteArray} {ks : List Kn} : ∀ (n : Nat) (s : St) (l : List Kn), (∀ x ∈ s.acc, x ∈ ks) → runW kind k ks n s = .done l → ∀ x ∈ l, x ∈ ks
  | 0, s, l, _, h => by cases h
  | n + 1, s, l, ha, h => by
    have h' : (match stepW kind k ks s with | .inl o => o | .inr s' => runW kind k ks n s') = .done l := h
    clear h
    cases hs : stepW kind k ks s with
    | inl o =>
      rw [hs] at h'
      simp only at h'
      subst h'
      unfold stepW at hs
      cases hk : kfind ks s.c with
      | none => rw [hk] at hs; cases hs
      | some kn =>
        rw [hk] at hs
        simp only at hs
        split at hs
        · cases hs
        · split at hs
          · cases hs
          · split at hs
            · injection hs with hs
              injection hs with hs
              subst hs
              intro x hx
              rcases List.mem_append.1 hx with hx | hx
              · exact ha x hx
              · rw [List.mem_singleton.1 hx]; exact kfind_mem hk
            · split at hs <;> cases hs
    | inr s2 =>
      rw [hs] at h'
      simp only at h'
      refine run_in n s2 l ?_ h'
      unfold stepW at hs
      cases hk : kfind ks s.c with
      | none => rw [hk] at hs; cases hs
      | some kn =>
        rw [hk] at hs
        simp only at hs
        split at hs
        · cases hs
        · split at hs
          · injection hs with hs
            subst hs
            exact ha
          · split at hs
            · cases hs
            · split at hs
              · cases hs
              · injection hs with hs
                subst hs
                intro x hx
                rcases List.mem_append.1 hx with hx | hx
                · exact ha x hx
                · rw [List.mem_singleton.1 hx]; exact kfind_mem hk
theorem nodOk_wf {ks : List Kn} (h : ∀ kn ∈ ks, WfK kn) (hl : LightK ks) : ∀ kn ∈ ks, NodOk kn.n := fun kn hm => by
  have h1 := hl.1 kn hm
  have h2 := h kn hm
  refine ⟨by have := h1.b; omega, by have := h1.b; omega, fun x hx => ?_, by have := h1.n; omega, by have := h1.n; omega, by have := h1.n; omega, h2.nx, fun j hj => ?_⟩
  · obtain ⟨i, hi, rfl⟩ := List.mem_iff_getElem.1 hx
    have := h1.k i hi
    rw [nth_eq hi] at this
    omega
  · rw [ni_eq hj]
    exact h2.cs _ (List.getElem_mem hj)
theorem fit_wf {ks : List Kn} (h : ∀ kn ∈ ks, WfK kn) (hl : LightK ks) : ∀ j, j < ks.length → FitN (kAt ks j).n ∧ WfK (kAt ks j) := fun j hj => by
  have hno := nodOk_wf h hl _ (kAt_mem hj)
  have h1 := hl.1 _ (kAt_mem hj)
  exact ⟨⟨⟨hno.lo, hno.hi, hno.ks, hno.n1, hno.n2, hno.n3⟩, by have := h1.n; omega, by have := h1.n; omega⟩, h _ (kAt_mem hj)⟩
theorem WholeP.all {fan : Int} {ks : List Kn} (hw : WholeP fan ks) : AllS ks := fun kn hm => by
  obtain ⟨j, hj, rfl⟩ := List.getElem_of_mem hm
  have hs := ((soundB_iff fan (kAt ks j).n).1 (hw.2.1.2 j hj).2.2).2
  rw [kAt_eq hj] at hs
  exact ⟨hs.level, hs.range, ⟨by have := hs.keys.many; have := hw.1.2; omega, hs.keys.rise, hs.keys.inn⟩, hs.entries⟩
/-- A way that was told: of how many nodes, each one of it, known and small. -/
def WayIn (w : World) (kind : Nat) (k : ByteArray) (h : Nat) (ks : List Kn) (ao : Option Addr) (c : Nat) : Prop := ∃ (B : Nat) (l : List Kn), KsAt (PO w B) w (.slice ao h c) l ∧ WayOk kind k h l ∧ ∀ x ∈ l, x ∈ ks
theorem WayIn.keep {w w' : World} {kind : Nat} {k : ByteArray} {h : Nat} {ks : List Kn} {ao : Option Addr} {c : Nat} (hw : WayIn w kind k h ks ao c) (hb : Below w.heap.size w w') : WayIn w' kind k h ks ao c := by
  obtain ⟨B, l, ⟨a, c', e, q1, q2, q3⟩, h2, h3⟩ := hw
  refine ⟨B, l, ?_, h2, h3⟩
  have h1 : KsAt (PO w B) w' (.slice ao h c) l := KsAt.keep ⟨a, c', e, q1, q2, q3⟩ hb
  obtain ⟨a, b, e, q1, q2, q3⟩ := h1
  refine ⟨a, b, e, q1, q2, fun hq => ?_⟩
  obtain ⟨g, o, e2, hc⟩ := q3 hq
  refine ⟨g, o, e2, fun j hj => ?_⟩
  obtain ⟨l2, hl, hcc⟩ := hc j hj
  exact ⟨l2, hl.mono (fun _ _ _ hp => hp.keep hb), hcc⟩
theorem way_of {w : World} {kind : Nat} {k : ByteArray} {h B0 B : Nat} {ks : List Kn} {ao : Option Addr} {n c : Nat} {ok : Bool} {k1 m1 : Int} (he : Ends kind k ks h B0 B 0 0 w (.slice ao n c) ok k1 m1) {l : List Kn} (hr : runW kind k ks h ⟨0, -1, []⟩ = .done l) (hl : WayOk kind k h l) : ok = true ∧ h = n ∧ WayIn w kind k h ks ao c := by
  unfold Ends at he
  rw [hr] at he
  obtain ⟨rfl, _, _, hk⟩ := he
  have e : h = n := (hk.ks.len.1.trans hl.1).symm
  subst e
  exact ⟨rfl, rfl, B, l, hk.ks, hl, run_in _ _ _ (fun x hx => by cases hx) hr⟩
theorem way_no {w : World} {kind : Nat} {k : ByteArray} {h B0 B : Nat} {ks : List Kn} {ao : Option Addr} {n c : Nat} {ok : Bool} {k1 m1 : Int} (he : Ends kind k ks h B0 B 0 0 w (.slice ao n c) ok k1 m1) (hr : runW kind k ks h ⟨0, -1, []⟩ = .lost) : ok = false := by
  unfold Ends at he
  rw [hr] at he
  exact he.1
/-- The node of a way at a place: its cells, its level, that it is one of it. -/
theorem WayIn.get {w : World} {kind : Nat} {k : ByteArray} {h : Nat} {ks : List Kn} {ao : Option Addr} {c : Nat} (hw : WayIn w kind k h ks ao c) {i : Nat} (hi : i < h) :
    ∃ (g o : Nat) (n : Nod) (ak : Option Addr) (nk ck : Nat) (av : Option Addr) (nv cv : Nat) (ac : Option Addr) (nc cc : Nat), ao = some ⟨g, o, none⟩ ∧ h ≤ c ∧ c ≤ 9223372036854775807 ∧ n.lv = (h : Int) - 1 - i ∧ onF kind k n = true ∧ (∃ kn ∈ ks, kn.n = n) ∧
      ∀ V, Below w.heap.size w V → V.cell? ⟨g, o + i * 11 + 3, none⟩ = some (.int .i64 n.lv) ∧ V.cell? ⟨g, o + i * 11 + 4, none⟩ = some (.string n.lo) ∧ V.cell? ⟨g, o + i * 11 + 5, none⟩ = some (.string n.hi) ∧ V.cell? ⟨g, o + i * 11 + 6, none⟩ = some (.bool n.la) ∧ V.cell? ⟨g, o + i * 11 + 7, none⟩ = some (.int .i64 n.nx) ∧ V.cell? ⟨g, o + i * 11 + 8, none⟩ = some (.slice ak nk ck) ∧ V.cell? ⟨g, o + i * 11 + 9, none⟩ = some (.slice av nv cv) ∧ V.cell? ⟨g, o + i * 11 + 10, none⟩ = some (.slice ac nc cc) := by
  obtain ⟨B, l, hk, hl, hin⟩ := hw
  obtain ⟨g, o, ak, nk, ck, av, nv, cv, ac, nc, cc, rfl, _, hc⟩ := hk.get hi
  have hil : i < l.length := by rw [hl.1]; exact hi
  have h2 := hl.2 i hil
  refine ⟨g, o, (kAt l i).n, ak, nk, ck, av, nv, cv, ac, nc, cc, rfl, hk.len.2.1, hk.len.2.2, ?_, ?_, ⟨_, hin _ (kAt_mem hil), rfl⟩, fun V hV => ?_⟩
  · rw [kAt_eq hil]; exact h2.1
  · rw [kAt_eq hil]; exact h2.2
  · obtain ⟨_, _, _, q3, q4, q5, q6, q7, q8, q9, q10⟩ := hc V hV
    exact ⟨q3, q4, q5, q6, q7, q8, q9, q10⟩

set_option maxHeartbeats 8000000 in
set_option maxRecDepth 100000 in
theorem findWhole_any (ao : Option Addr) (n c : Nat) (ks : List Kn) (k : ByteArray) (fan : Int) (w : World) (h : KsAt (PV w) w (.slice ao n c) ks) (hwf : ∀ kn ∈ ks, WfK kn) :
    Calls Tryz.prog 3 #[.slice ao n c, .string k, .int .i64 fan] w fun e w' => e = .returned (.bool true) ∧ Below w.heap.size w w' := by
  have HL := Lib.hid (light15_any w ao n c ks w (Below.refl _ _) h)
  have HLV := Lib.hid (fun W => lives19_any W)
  have HWF := Lib.hid hwf
  have HK := Lib.hid h
  have HLEN := Lib.hid h.len
  clear h hwf
  go_enter Tryz.func3, Tryz.ntmps3
  go_wp2_with fail
  refine HL.out.mono ?_
  rintro e w2 ⟨r, rfl, hr, hb2⟩
  have HX2 := Lib.hid hb2
  have HR := Lib.hid hr
  clear hb2 hr HL
  by_cases hk100 : (k.size : Int) > 100
  · cases r <;>
    (
        go_wp2_with fail
        refine (HLV.out _).mono ?_
        rintro e w9 ⟨rfl, hb9⟩
        have HX9 := Lib.hid (HX2.out.trans (hb9.mono HX2.out.size))
        clear hb9
        go_wp2
        go_ret
        exact ⟨rfl, HX9.out⟩)
  · cases r with
    | false =>
        go_wp2_with fail
        refine (HLV.out _).mono ?_
        rintro e w9 ⟨rfl, hb9⟩
        have HX9 := Lib.hid (HX2.out.trans (hb9.mono HX2.out.size))
        clear hb9
        go_wp2
        go_ret
        exact ⟨rfl, HX9.out⟩
    | true =>
      have HLK := Lib.hid (HR.out.1 rfl)
      have hn40 : n ≤ 40 := by rw [HLEN.out.1]; exact HLK.out.2
      have HN40 := Lib.hid hn40
      have HKS := Lib.hid (show k.size ≤ 140737488355328 by omega)
      have HFIT := Lib.hid (show ∀ j, j < n → FitN (kAt ks j).n ∧ WfK (kAt ks j) from fun j hj => fit_wf HWF.out HLK.out j (by rw [← HLEN.out.1]; exact hj))
      have HOK := Lib.hid (nodOk_wf HWF.out HLK.out)
      have HWH := Lib.hid (whole_any w ao n c ks fan w2 HX2.out (HK.out.keep HX2.out) (by omega) HFIT.out)
      clear hn40 HR
      go_wp2_with fail
      refine HWH.out.mono ?_
      rintro e w3 ⟨r, rfl, hr, hb3⟩
      have HX3 := Lib.hid (HX2.out.trans (hb3.mono HX2.out.size))
      have HR := Lib.hid hr
      clear hb3 hr HWH
      cases r with
      | false =>
          go_wp2_with fail
          refine (HLV.out _).mono ?_
          rintro e w9 ⟨rfl, hb9⟩
          have HX9 := Lib.hid (HX3.out.trans (hb9.mono HX3.out.size))
          clear hb9
          go_wp2
          go_ret
          exact ⟨rfl, HX9.out⟩
      | true =>
        have HW := Lib.hid (HR.out.1 rfl)
        obtain ⟨h, hh, h0, h14, ⟨la, hla, wla⟩, hbelow, hnone, ⟨lc, hlc, wlc⟩⟩ := HW.out.ways k
        have HA := Lib.hid (show _ ∧ _ from ⟨hla, wla⟩)
        have HC := Lib.hid (show _ ∧ _ from ⟨hlc, wlc⟩)
        have HBL := Lib.hid hbelow
        have HNO := Lib.hid hnone
        have HS := Lib.hid HW.out.all
        have HSAME := Lib.hid (learnAll_same HW.out.2.1)
        have HHT := Lib.hid (height_any w ao n c ks w3 HX3.out (HK.out.keep HX3.out) (by have := HN40.out; omega) (fun j hj => (HFIT.out j hj).1))
        rw [hh] at HHT
        have HVW := Lib.hid (fun W (hb : Below w.heap.size w W) => view_says w ao n c ks W hb (HK.out.keep hb) HOK.out (by have := HN40.out; omega))
        rw [HSAME.out] at HVW
        clear hla wla hlc wlc hbelow hnone hh HR HWF HLEN
        go_wp2_with fail
        refine HHT.out.mono ?_
        rintro e w4 ⟨rfl, hb4⟩
        have HX4 := Lib.hid (HX3.out.trans (hb4.mono HX3.out.size))
        clear hb4 HHT
        go_wp2_with fail
        refine (HVW.out _ HX4.out).mono ?_
        rintro e w5 ⟨A, b, N, rfl, hf, hb⟩
        have HF := Lib.hid hf
        have HB5 := Lib.hid hb
        have HBS := Lib.hid (show ∀ g, VS A b (.slice none 0 0) g → w4.heap.size ≤ g from hf.base)
        clear hf hb
        go_wp2_with fail
        refine (leaf_says (h : Nat) k w5 HF.out HOK.out (by omega) HKS.out).mono ?_
        rintro e w6 ⟨xo0, xn0, xc0, ok0, k0, m0, rfl, _, ht, he⟩
        have HE := Lib.hid (he HS.out)
        have HB6 := Lib.hid (HB5.out.trans (ht.below HBS.out HB5.out.size))
        have HX6 := Lib.hid (HX4.out.trans (HB6.out.mono HX4.out.size))
        clear ht he
        rw [Int.toNat_natCast] at HE
        obtain ⟨rfl, rfl, hwa⟩ := way_of HE.out HA.out.1 HA.out.2
        have HWA := Lib.hid hwa
        clear HE HF hwa HBS
        go_wp2_with fail
        refine (HVW.out _ HX6.out).mono ?_
        rintro e w7 ⟨A, b, N, rfl, hf, hb⟩
        have HF := Lib.hid hf
        have HB7 := Lib.hid hb
        have HBS := Lib.hid (show ∀ g, VS A b (.slice none 0 0) g → w6.heap.size ≤ g from hf.base)
        clear hf hb
        go_wp2_with fail
        refine (below_says (h : Nat) k w7 HF.out HOK.out (by omega) HKS.out).mono ?_
        rintro e w8 ⟨xo1, xn1, xc1, ok1, k1, m1, rfl, _, ht, he⟩
        have HE := Lib.hid (he HS.out)
        have HB8 := Lib.hid (HB7.out.trans (ht.below HBS.out HB7.out.size))
        have HX8 := Lib.hid (HX6.out.trans (HB8.out.mono HX6.out.size))
        clear ht he
        rw [Int.toNat_natCast] at HE
        have HWA8 := Lib.hid (HWA.out.keep HB8.out)
        clear HF HBS HWA
        by_cases hk0 : k.size = 0
        · obtain rfl := way_no HE.out (HNO.out hk0)
          have hkt : (k.toList == []) = true := by
            rw [beq_iff_eq]
            refine List.eq_nil_of_length_eq_zero ?_
            rw [ByteArray.toList_eq, Array.length_toList]
            exact hk0
          have hkt2 : (k.toList != []) = false := by rw [bne, hkt]; rfl
          clear HE
          go_wp2_with fail
          refine (HVW.out _ HX8.out).mono ?_
          rintro e w9 ⟨A, b, N, rfl, hf, hb⟩
          have HF := Lib.hid hf
          have HB9 := Lib.hid hb
          have HBS := Lib.hid (show ∀ g, VS A b (.slice none 0 0) g → w8.heap.size ≤ g from hf.base)
          clear hf hb
          go_wp2_with fail
          refine (end_says (h : Nat) k w9 HF.out HOK.out (by omega)).mono ?_
          rintro e w10 ⟨xo2, xn2, xc2, ok2, k2, m2, rfl, _, ht, he⟩
          have HE := Lib.hid (he HS.out)
          have HB10 := Lib.hid (HB9.out.trans (ht.below HBS.out HB9.out.size))
          have HX10 := Lib.hid (HX8.out.trans (HB10.out.mono HX8.out.size))
          clear ht he
          rw [Int.toNat_natCast] at HE
          obtain ⟨rfl, rfl, hwc⟩ := way_of HE.out HC.out.1 HC.out.2
          have HWC := Lib.hid hwc
          have HWA10 := Lib.hid (HWA8.out.keep HB10.out)
          have hself : ((h : Int) != (h : Int)) = false := by simp
          clear HE HF HBS hwc HWA8 HA HC HBL HNO HVW
          go_wp2
          go_loopw [89] (fun s wr => ∃ i : Nat, s = .int .i64 i ∧ i ≤ h ∧ Hid (Below w10.heap.size w10 wr)) (fun s _ => h - (intOf s).toNat)
          case atStart => exact ⟨0, rfl, Nat.zero_le _, Lib.hid (Below.refl _ _)⟩
          case round =>
            obtain ⟨i, rfl, hi, HBR⟩ := hrel
            obtain ⟨wx, hwx⟩ : ∃ W : World, W = wr := ⟨_, rfl⟩
            rw [← hwx] at HBR ⊢
            clear hwx
            by_cases hlt : i < h
            · have hlt' : (i : Int) < h := by omega
              have e1 : IntKind.i64.wrap ((h : Int) - 1) = (h : Int) - 1 := by rw [IntKind.wrap_i64]; omega
              have e2 : IntKind.i64.wrap ((h : Int) - 1 - (i : Int)) = (h : Int) - 1 - (i : Int) := by rw [IntKind.wrap_i64]; omega
              have hne : (((h : Int) - 1 - (i : Int)) != ((h : Int) - 1 - (i : Int))) = false := by simp
              obtain ⟨ga, oa, na, aka, nka, cka, ava, nva, cva, aca, nca, cca, rfl, hca1, hca2, hlva, hona, ⟨kna, hmka, hkna⟩, hcella⟩ := (HWA10.out.keep HBR.out).get hlt
              obtain ⟨gc, oc, nc, akc, nkc, ckc, avc, nvc, cvc, acc, ncc, ccc, rfl, hcc1, hcc2, hlvc, honc, _, hcellc⟩ := (HWC.out.keep HBR.out).get hlt
              have hnoa := HOK.out kna hmka
              rw [hkna] at hnoa
              rw [hlva] at hcella
              have HCA := Lib.hid hcella
              obtain ⟨qa3, qa4, qa5, qa6, qa7, qa8, qa9, qa10⟩ := hcella wx (Below.refl _ _)
              have HCV := Lib.hid (fun W => covers_any ((h : Int) - 1 - (i : Int)) na.nx na.lo na.hi na.la aka ava aca nka cka nva cva nca cca k W hnoa.lo hnoa.hi HKS.out)
              rw [show insideB na.lo.data.toList na.hi.data.toList na.la k.data.toList = true from hona] at HCV
              rw [show nc.la = true from honc] at hcellc
              have HCC := Lib.hid hcellc
              clear hcella hcellc hnoa hmka hkna hona hlva honc hlvc
              go_wp2_with fail
              refine (HCV.out _).mono ?_
              rintro e w11 ⟨rfl, hb11⟩
              have HB11 := Lib.hid hb11
              clear qa3 qa4 qa5 qa6 qa7 qa8 qa9 qa10 hb11
              have HB12 := HB11
              obtain ⟨_, _, _, qc6, _, _, _, _⟩ := HCC.out _ HB12.out
              go_wp2
              go_roundw
              case rel => exact ⟨i + 1, by go_num, by omega, Lib.hid (HBR.out.trans (HB12.out.mono HBR.out.size))⟩
              case measure => simp [intOf]; omega
            · obtain rfl : i = h := by omega
              have HXR := Lib.hid (HX10.out.trans (HBR.out.mono HX10.out.size))
              go_wp2_with fail
              refine (HLV.out _).mono ?_
              rintro e w9 ⟨rfl, hb9⟩
              have HX9 := Lib.hid (HXR.out.trans (hb9.mono HXR.out.size))
              clear hb9
              go_wp2
              go_ret
              exact ⟨rfl, HX9.out⟩
        · obtain ⟨lb, hlb, wlb⟩ := HBL.out hk0
          obtain ⟨rfl, rfl, hwb⟩ := way_of HE.out hlb wlb
          have HWB := Lib.hid hwb
          have hkt : (k.toList == []) = false := by
            rw [beq_eq_false_iff_ne]
            intro e
            apply hk0
            have := congrArg List.length e
            rw [ByteArray.toList_eq, Array.length_toList] at this
            exact this
          have hkt2 : (k.toList != []) = true := by rw [bne, hkt]; rfl
          clear HE hlb wlb hwb
          go_wp2_with fail
          refine (HVW.out _ HX8.out).mono ?_
          rintro e w9 ⟨A, b, N, rfl, hf, hb⟩
          have HF := Lib.hid hf
          have HB9 := Lib.hid hb
          have HBS := Lib.hid (show ∀ g, VS A b (.slice none 0 0) g → w8.heap.size ≤ g from hf.base)
          clear hf hb
          go_wp2_with fail
          refine (end_says (h : Nat) k w9 HF.out HOK.out (by omega)).mono ?_
          rintro e w10 ⟨xo2, xn2, xc2, ok2, k2, m2, rfl, _, ht, he⟩
          have HE := Lib.hid (he HS.out)
          have HB10 := Lib.hid (HB9.out.trans (ht.below HBS.out HB9.out.size))
          have HX10 := Lib.hid (HX8.out.trans (HB10.out.mono HX8.out.size))
          clear ht he
          rw [Int.toNat_natCast] at HE
          obtain ⟨rfl, rfl, hwc⟩ := way_of HE.out HC.out.1 HC.out.2
          have HWC := Lib.hid hwc
          have HWA10 := Lib.hid (HWA8.out.keep HB10.out)
          have HWB10 := Lib.hid (HWB.out.keep HB10.out)
          have hself : ((h : Int) != (h : Int)) = false := by simp
          clear HE HF HBS hwc HWA8 HA HC HBL HNO HVW
          go_wp2
          go_loopw [89] (fun s wr => ∃ i : Nat, s = .int .i64 i ∧ i ≤ h ∧ Hid (Below w10.heap.size w10 wr)) (fun s _ => h - (intOf s).toNat)
          case atStart => exact ⟨0, rfl, Nat.zero_le _, Lib.hid (Below.refl _ _)⟩
          case round =>
            obtain ⟨i, rfl, hi, HBR⟩ := hrel
            obtain ⟨wx, hwx⟩ : ∃ W : World, W = wr := ⟨_, rfl⟩
            rw [← hwx] at HBR ⊢
            clear hwx
            by_cases hlt : i < h
            · have hlt' : (i : Int) < h := by omega
              have e1 : IntKind.i64.wrap ((h : Int) - 1) = (h : Int) - 1 := by rw [IntKind.wrap_i64]; omega
              have e2 : IntKind.i64.wrap ((h : Int) - 1 - (i : Int)) = (h : Int) - 1 - (i : Int) := by rw [IntKind.wrap_i64]; omega
              have hne : (((h : Int) - 1 - (i : Int)) != ((h : Int) - 1 - (i : Int))) = false := by simp
              obtain ⟨ga, oa, na, aka, nka, cka, ava, nva, cva, aca, nca, cca, rfl, hca1, hca2, hlva, hona, ⟨kna, hmka, hkna⟩, hcella⟩ := (HWA10.out.keep HBR.out).get hlt
              obtain ⟨gb, ob, nb, akb, nkb, ckb, avb, nvb, cvb, acb, ncb, ccb, rfl, hcb1, hcb2, hlvb, honb, ⟨knb, hmkb, hknb⟩, hcellb⟩ := (HWB10.out.keep HBR.out).get hlt
              obtain ⟨gc, oc, nc, akc, nkc, ckc, avc, nvc, cvc, acc, ncc, ccc, rfl, hcc1, hcc2, hlvc, honc, _, hcellc⟩ := (HWC.out.keep HBR.out).get hlt
              have hnoa := HOK.out kna hmka
              rw [hkna] at hnoa
              rw [hlva] at hcella
              have HCA := Lib.hid hcella
              obtain ⟨qa3, qa4, qa5, qa6, qa7, qa8, qa9, qa10⟩ := hcella wx (Below.refl _ _)
              have HCV := Lib.hid (fun W => covers_any ((h : Int) - 1 - (i : Int)) na.nx na.lo na.hi na.la aka ava aca nka cka nva cva nca cca k W hnoa.lo hnoa.hi HKS.out)
              rw [show insideB na.lo.data.toList na.hi.data.toList na.la k.data.toList = true from hona] at HCV
              have hnob := HOK.out knb hmkb
              rw [hknb] at hnob
              have HCB := Lib.hid hcellb
              have HBN := Lib.hid (fun W => nbeneath_any nb.lv nb.nx nb.lo nb.hi nb.la akb avb acb nkb ckb nvb cvb ncb ccb k W hnob.lo hnob.hi HKS.out)
              rw [show beneathB nb.lo.data.toList nb.hi.data.toList nb.la k.data.toList = true from honb] at HBN
              clear hcellb hnob hmkb hknb honb hlvb
              rw [show nc.la = true from honc] at hcellc
              have HCC := Lib.hid hcellc
              clear hcella hcellc hnoa hmka hkna hona hlva honc hlvc
              go_wp2_with fail
              refine (HCV.out _).mono ?_
              rintro e w11 ⟨rfl, hb11⟩
              have HB11 := Lib.hid hb11
              clear qa3 qa4 qa5 qa6 qa7 qa8 qa9 qa10 hb11
              obtain ⟨qb3, qb4, qb5, qb6, qb7, qb8, qb9, qb10⟩ := HCB.out w11 HB11.out
              go_wp2_with fail
              refine (HBN.out _).mono ?_
              rintro e w12 ⟨rfl, hb12⟩
              have HB12 := Lib.hid (HB11.out.trans (hb12.mono HB11.out.size))
              clear qb3 qb4 qb5 qb6 qb7 qb8 qb9 qb10 hb12
              obtain ⟨_, _, _, qc6, _, _, _, _⟩ := HCC.out _ HB12.out
              go_wp2
              go_roundw
              case rel => exact ⟨i + 1, by go_num, by omega, Lib.hid (HBR.out.trans (HB12.out.mono HBR.out.size))⟩
              case measure => simp [intOf]; omega
            · obtain rfl : i = h := by omega
              have HXR := Lib.hid (HX10.out.trans (HBR.out.mono HX10.out.size))
              go_wp2_with fail
              refine (HLV.out _).mono ?_
              rintro e w9 ⟨rfl, hb9⟩
              have HX9 := Lib.hid (HXR.out.trans (hb9.mono HXR.out.size))
              clear hb9
              go_wp2
              go_ret
              exact ⟨rfl, HX9.out⟩
end Go.Proofs.YtdbklklmpnlinaaGreat
