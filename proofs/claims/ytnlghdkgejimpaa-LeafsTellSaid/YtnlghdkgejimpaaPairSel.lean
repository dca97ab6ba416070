/- bowerref06.Next and Prev on rows of pairs: the best pair of those that are meant. Conditions: at most 2^38 pairs, texts of at most 2^47 bytes. -/
import Derived.Test.YtnlghdkgejimpaaPairRef
import Derived.WalkSmall
namespace Go.Proofs.Ytnlghdkgejimpaa
open Go.RowKit

/-- The best pair of those that are meant. -/
def beats (bt : ByteArray → ByteArray → Bool) (p : ByteArray × Int) : Option (ByteArray × Int) → Bool
  | none => true
  | some b => bt p.1 b.1
def selStep (c : ByteArray → Bool) (bt : ByteArray → ByteArray → Bool) (best : Option (ByteArray × Int)) (p : ByteArray × Int) : Option (ByteArray × Int) :=
  if c p.1 && beats bt p best then some p else best
def selP (c : ByteArray → Bool) (bt : ByteArray → ByteArray → Bool) (ps : List (ByteArray × Int)) : Option (ByteArray × Int) := ps.foldl (selStep c bt) none

theorem selP_step (c : ByteArray → Bool) (bt : ByteArray → ByteArray → Bool) (ps : List (ByteArray × Int)) (i : Nat) (hi : i < ps.length) : selP c bt (ps.take (i + 1)) = selStep c bt (selP c bt (ps.take i)) (ntp ps i) := by
  unfold selP
  rw [List.take_succ_eq_append_getElem hi, List.foldl_append, ntp_eq hi]
  rfl

theorem selStep_some (c : ByteArray → Bool) (bt : ByteArray → ByteArray → Bool) (best : Option (ByteArray × Int)) (p b : ByteArray × Int) (h : selStep c bt best p = some b) : best = some b ∨ (p = b ∧ c b.1 = true) := by
  unfold selStep at h
  by_cases hc : (c p.1 && beats bt p best) = true
  · rw [if_pos hc] at h
    injection h with h
    subst h
    simp only [Bool.and_eq_true] at hc
    exact Or.inr ⟨rfl, hc.1⟩
  · rw [if_neg hc] at h
    exact Or.inl h

theorem selP_mem (c : ByteArray → Bool) (bt : ByteArray → ByteArray → Bool) (ps : List (ByteArray × Int)) : ∀ b, selP c bt ps = some b → b ∈ ps ∧ c b.1 = true := by
  unfold selP
  suffices h : ∀ (best : Option (ByteArray × Int)) b, ps.foldl (selStep c bt) best = some b → (best = some b) ∨ (b ∈ ps ∧ c b.1 = true) by
    intro b hb
    rcases h none b hb with h | h
    · cases h
    · exact h
  induction ps with
  | nil => intro best b h; exact Or.inl h
  | cons p ps ih =>
    intro best b h
    rw [List.foldl_cons] at h
    rcases ih _ _ h with h1 | h1
    · rcases selStep_some c bt best p b h1 with h2 | ⟨rfl, h2⟩
      · exact Or.inl h2
      · exact Or.inr ⟨List.mem_cons_self, h2⟩
    · exact Or.inr ⟨List.mem_cons_of_mem _ h1.1, h1.2⟩

/-- What stands in 'ok' and 'best'. -/
def Sel (c : ByteArray → Bool) (bt : ByteArray → ByteArray → Bool) (ps : List (ByteArray × Int)) (b : Bool) (p : ByteArray × Int) : Prop :=
  (b = false ∧ p = (⟨#[]⟩, 0) ∧ selP c bt ps = none) ∨ (b = true ∧ selP c bt ps = some p)

/-- A pair in a block of its own. -/
def Two (w : World) (g : Nat) (p : ByteArray × Int) : Prop := w.heap[g]? = some (.cells #[.string p.1, .int .u64 p.2] 37 (0, 0))

theorem Two.c0 {w : World} {g : Nat} {p : ByteArray × Int} (h : Two w g p) : w.cell? ⟨g, 0, none⟩ = some (.string p.1) := by unfold Two at h; simp [World.cell?, h]
theorem Two.c1 {w : World} {g : Nat} {p : ByteArray × Int} (h : Two w g p) : w.cell? ⟨g, 1, none⟩ = some (.int .u64 p.2) := by unfold Two at h; simp [World.cell?, h]
theorem Two.f {w : World} {g i : Nat} {p : ByteArray × Int} (h : Two w g p) : w.frozen? ⟨g, i, none⟩ = false := by unfold Two at h; simp [World.frozen?, h]
theorem Two.drew {w w' : World} {g : Nat} {p : ByteArray × Int} (h : Two w g p) (hd : Drew w w') : Two w' g p := by obtain ⟨q, rfl⟩ := hd; exact h
theorem Two.set {w : World} {g : Nat} {p q : ByteArray × Int} (h : Two w g p) : Two ((w.setCell ⟨g, 0, none⟩ (.string q.1)).setCell ⟨g, 1, none⟩ (.int .u64 q.2)) g q := by
  unfold Two at *
  have h1 : (w.setCell ⟨g, 0, none⟩ (.string q.1)).heap[g]? = some (.cells #[.string q.1, .int .u64 p.2] 37 (0, 0)) := by
    have hlt := lt_of_block h
    have h' : w.heap[g] = .cells #[.string p.1, .int .u64 p.2] 37 (0, 0) := by simpa [Array.getElem?_eq_getElem hlt] using h
    show (w.heap.modify g _)[g]? = _
    rw [Array.getElem?_eq_getElem (by simpa using hlt), Array.getElem_modify_self, h']
    rfl
  generalize w.setCell ⟨g, 0, none⟩ (.string q.1) = w1 at *
  have hlt := lt_of_block h1
  have h' : w1.heap[g] = .cells #[.string q.1, .int .u64 p.2] 37 (0, 0) := by simpa [Array.getElem?_eq_getElem hlt] using h1
  show (w1.heap.modify g _)[g]? = _
  rw [Array.getElem?_eq_getElem (by simpa using hlt), Array.getElem_modify_self, h']
  rfl
theorem Two.far {w : World} {g g' : Nat} {p : ByteArray × Int} {i : Nat} {u : Value} (h : Two w g p) (hne : g ≠ g') : Two (w.setCell ⟨g', i, none⟩ u) g p := by
  unfold Two at *
  rw [Below.heap_setCell _ _ _ _ hne]
  exact h

theorem drew_below {w w' : World} (h : Drew w w') (B : Nat) : Below B w w' := by
  obtain ⟨q, rfl⟩ := h
  exact below_drewN (Below.refl _ _) _

theorem lessQ (a b : ByteArray) (w : World) (n : Nat) (ha : a.size ≤ 140737488355328) (hb : b.size ≤ 140737488355328) :
    Calls Try.prog 69 #[.string a, .string b] (w.drewN n) fun e w' => e = .returned (.bool (lss a.data.toList b.data.toList)) ∧ ∃ m, w' = w.drewN m :=
  Calls.quiet_of (less_any a b (w.drewN n) ha hb)

/-- What is told: the best one, or the zero pair. -/
def SelGives (w w' : World) (e : Ending) (r : Option (ByteArray × Int)) : Prop :=
  ∃ (b : Bool) (p : ByteArray × Int), e = .returned (.tuple #[.agg #[.string p.1, .int .u64 p.2], .bool b]) ∧ ((b = false ∧ p = (⟨#[]⟩, 0) ∧ r = none) ∨ (b = true ∧ r = some p)) ∧ Below w.heap.size w w'

def nextC  (k : ByteArray) : ByteArray → Bool := fun x => lss k.data.toList x.data.toList
def nextB : ByteArray → ByteArray → Bool := fun x b => lss x.data.toList b.data.toList

set_option maxHeartbeats 4000000 in
set_option maxRecDepth 100000 in
theorem rnext_any (v : Value) (k : ByteArray)  (ps : List (ByteArray × Int)) (w : World) (hr : RdP w v ps) (hn : ps.length ≤ 274877906944) (hk : k.size ≤ 140737488355328) (hs : ∀ p ∈ ps, p.1.size ≤ 140737488355328) :
    Calls Try.prog 23 #[v, .string k] w fun e w' => SelGives w w' e (selP (nextC  k) nextB ps) := by
  obtain ⟨ao, c, rfl⟩ := hr.open
  have hi0 := hr.len
  have hnc := hi0.2.1
  have hcb := hi0.2.2
  have HR := Lib.hid hr
  have HS := Lib.hid (selP_step (nextC  k) nextB ps)
  have HF : Hid (selP (nextC  k) nextB (ps.take ps.length) = selP (nextC  k) nextB ps) := Lib.hid (by rw [List.take_length])
  have HM := Lib.hid (fun i => selP_mem (nextC  k) nextB (ps.take i))
  have HZ := Lib.hid hs
  clear hr hi0 hs
  obtain ⟨n, hL⟩ : ∃ n, n = ps.length := ⟨_, rfl⟩
  rw [← hL] at HR hnc HS HF hn ⊢
  have HLL := Lib.hid hL
  clear hL
  obtain ⟨hw1, hw2, hwb⟩ : Two ((w.alloc (.cells #[.string ⟨#[]⟩, .int .u64 0] 37)).alloc (.cells #[.string ⟨#[]⟩, .int .u64 0] 37)) w.heap.size (⟨#[]⟩, 0) ∧ Two ((w.alloc (.cells #[.string ⟨#[]⟩, .int .u64 0] 37)).alloc (.cells #[.string ⟨#[]⟩, .int .u64 0] 37)) (w.heap.size + 1) (⟨#[]⟩, 0) ∧ Below w.heap.size w ((w.alloc (.cells #[.string ⟨#[]⟩, .int .u64 0] 37)).alloc (.cells #[.string ⟨#[]⟩, .int .u64 0] 37)) := ⟨(two_alloc w _ _).1, (two_alloc w _ _).2.1, ((Below.refl _ _).alloc (Nat.le_refl _) _).alloc (by simp) _⟩
  have HW := Lib.hid (And.intro hw1 (And.intro hw2 hwb))
  clear hw1 hw2 hwb
  go_enter Try.func23, Try.ntmps23
  go_wp2
  go_loopw [7, 8] (fun sb si wr => ∃ (i : Nat) (b : Bool) (p : ByteArray × Int), si = .int .i64 i ∧ sb = .bool b ∧ i ≤ n ∧ Hid (Sel (nextC  k) nextB (ps.take i) b p) ∧ Hid (Two wr w.heap.size (⟨#[]⟩, 0)) ∧ Hid (Two wr (w.heap.size + 1) p) ∧ Hid (Below w.heap.size w wr)) (fun _ si _ => n - (intOf si).toNat)
  case atStart => exact ⟨0, false, (⟨#[]⟩, 0), rfl, rfl, Nat.zero_le _, Lib.hid (Or.inl ⟨rfl, rfl, rfl⟩), Lib.hid HW.out.1, Lib.hid HW.out.2.1, Lib.hid HW.out.2.2⟩
  case round =>
    obtain ⟨i, b, bp, rfl, rfl, hi, hsel, hT0, hT1, hb⟩ := hrel
    by_cases hlt : i < n
    · obtain ⟨g, o, rfl, hcs⟩ := (HR.out.keep hb.out).at_ i hlt
      have hc1 := (hcs i hlt).1
      have hc2 := (hcs i hlt).2
      have t0 := hT1.out.c0
      have t1 := hT1.out.c1
      have f0 := hT1.out.f (i := 0)
      have f1 := hT1.out.f (i := 1)
      have hstep := HS.out i hlt
      have hi1 : (i : Int) < n := by omega
      have hps : (ntp ps i).1.size ≤ 140737488355328 := by
        have := HLL.out
        rw [ntp_eq (by omega)]
        exact HZ.out _ (List.getElem_mem _)
      have hbs : bp.1.size ≤ 140737488355328 := by
        rcases hsel.out with ⟨_, rfl, _⟩ | ⟨_, h⟩
        · exact (by decide : (0 : Nat) ≤ 140737488355328)
        · exact HZ.out _ (List.mem_of_mem_take (HM.out i _ h).1)
      have H1 := fun (W : World) (m : Nat) => Lib.hid (lessQ k (ntp ps i).1 W m (hk) (hps))
      have H2 := fun (W : World) (m : Nat) => Lib.hid (lessQ (ntp ps i).1 bp.1 W m (hps) (hbs))
      clear hcs hps hbs
      generalize hp : ntp ps i = p at *
      clear hp
      have hcases : ((nextC  k p.1 = false) ∨ (nextC  k p.1 = true ∧ b = false) ∨ (nextC  k p.1 = true ∧ b = true ∧ nextB p.1 bp.1 = true) ∨ (nextC  k p.1 = true ∧ b = true ∧ nextB p.1 bp.1 = false)) := by
        cases nextC  k p.1 <;> cases b <;> cases nextB p.1 bp.1 <;> simp
      have hnew : (nextC  k p.1 = true) → (b = false ∨ nextB p.1 bp.1 = true) → selP (nextC  k) nextB (ps.take (i + 1)) = some p := fun hc hd => by
        rw [hstep]
        unfold selStep
        rcases hsel.out with ⟨rfl, _, e⟩ | ⟨rfl, e⟩
        · rw [e]; simp [beats, hc]
        · rcases hd with h | h
          · cases h
          · rw [e]; simp [beats, hc, h]
      have hold : (nextC  k p.1 = false ∨ (b = true ∧ nextB p.1 bp.1 = false)) → Sel (nextC  k) nextB (ps.take (i + 1)) b bp := fun hd => by
        unfold Sel
        rw [hstep]
        unfold selStep
        rcases hsel.out with ⟨rfl, e1, e⟩ | ⟨rfl, e⟩
        · rcases hd with h | ⟨h, _⟩
          · left; refine ⟨rfl, e1, ?_⟩; rw [e]; simp [h]
          · cases h
        · right; refine ⟨rfl, ?_⟩; rw [e]
          rcases hd with h | ⟨_, h⟩
          · simp [h]
          · simp [beats, h]
      have HNEW := Lib.hid hnew
      have HOLD := Lib.hid hold
      clear hstep hnew hold
      rcases hcases with h | ⟨h, rfl⟩ | ⟨h, rfl, h2⟩ | ⟨h, rfl, h2⟩
      · have HN2 := Lib.hid (HOLD.out (Or.inl h))
        clear hsel HNEW HOLD
        unfold nextC at h
        rw [h] at H1
        clear h
        go_wp2
        go_quiet ((first | (go_at_call 69; with_reducible exact (H1 _ _).out) | (go_at_call 69; with_reducible exact (H2 _ _).out)))
        go_wp2
        go_roundw
        case rel => exact ⟨i + 1, _, bp, by go_num, rfl, by omega, HN2, Lib.hid (hT0.out.drew ⟨_, rfl⟩), Lib.hid (hT1.out.drew ⟨_, rfl⟩), Lib.hid (hb.out.trans (drew_below ⟨_, rfl⟩ _))⟩
        case measure => simp [intOf]; omega
      · have HN2 := Lib.hid (HNEW.out h (Or.inl rfl))
        clear hsel HNEW HOLD
        unfold nextC at h
        rw [h] at H1
        clear h
        go_wp2
        go_quiet ((first | (go_at_call 69; with_reducible exact (H1 _ _).out) | (go_at_call 69; with_reducible exact (H2 _ _).out)))
        go_wp2
        go_roundw
        case rel => exact ⟨i + 1, true, p, by go_num, rfl, by omega, Lib.hid (Or.inr ⟨rfl, HN2.out⟩), Lib.hid (((hT0.out.drew ⟨_, rfl⟩).far (by omega)).far (by omega)), Lib.hid ((hT1.out.drew ⟨_, rfl⟩).set (q := p)), Lib.hid (((hb.out.trans (drew_below ⟨_, rfl⟩ _)).setCell (by simp) _).setCell (by simp) _)⟩
        case measure => simp [intOf]; omega
      · have HN2 := Lib.hid (HNEW.out h (Or.inr h2))
        clear hsel HNEW HOLD
        unfold nextC at h
        rw [h] at H1
        clear h
        unfold nextB at h2
        rw [h2] at H2
        clear h2
        go_wp2
        go_quiet ((first | (go_at_call 69; with_reducible exact (H1 _ _).out) | (go_at_call 69; with_reducible exact (H2 _ _).out)))
        go_wp2
        go_roundw
        case rel => exact ⟨i + 1, true, p, by go_num, rfl, by omega, Lib.hid (Or.inr ⟨rfl, HN2.out⟩), Lib.hid (((hT0.out.drew ⟨_, rfl⟩).far (by omega)).far (by omega)), Lib.hid ((hT1.out.drew ⟨_, rfl⟩).set (q := p)), Lib.hid (((hb.out.trans (drew_below ⟨_, rfl⟩ _)).setCell (by simp) _).setCell (by simp) _)⟩
        case measure => simp [intOf]; omega
      · have HN2 := Lib.hid (HOLD.out (Or.inr ⟨rfl, h2⟩))
        clear hsel HNEW HOLD
        unfold nextC at h
        rw [h] at H1
        clear h
        unfold nextB at h2
        rw [h2] at H2
        clear h2
        go_wp2
        go_quiet ((first | (go_at_call 69; with_reducible exact (H1 _ _).out) | (go_at_call 69; with_reducible exact (H2 _ _).out)))
        go_wp2
        go_roundw
        case rel => exact ⟨i + 1, _, bp, by go_num, rfl, by omega, HN2, Lib.hid (hT0.out.drew ⟨_, rfl⟩), Lib.hid (hT1.out.drew ⟨_, rfl⟩), Lib.hid (hb.out.trans (drew_below ⟨_, rfl⟩ _))⟩
        case measure => simp [intOf]; omega
    · obtain rfl : i = n := by omega
      have t0 := hT1.out.c0
      have t1 := hT1.out.c1
      have f0 := hT0.out.f (i := 0)
      have f1 := hT0.out.f (i := 1)
      have k0 := hT0.out.c0
      have k1 := hT0.out.c1
      have z0 := (hT0.out.set (q := bp)).c0
      have z1 := (hT0.out.set (q := bp)).c1
      have hfin := hsel.out
      unfold Sel at hfin
      rw [HF.out] at hfin
      have HFIN := Lib.hid hfin
      clear hfin
      go_wp2
      refine bodyPost_ret (v := .tuple #[.agg #[.string bp.1, .int .u64 bp.2], .bool b]) (by simp [results, Try.results23, go_sem, z0, z1]) rfl ⟨b, bp, rfl, HFIN.out, ?_⟩
      exact (hb.out.setCell (by simp) _).setCell (by simp) _
end Go.Proofs.Ytnlghdkgejimpaa
