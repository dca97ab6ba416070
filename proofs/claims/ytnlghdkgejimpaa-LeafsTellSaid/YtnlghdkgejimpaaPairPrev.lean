/- bowerref06.Prev on rows of pairs. Conditions: at most 2^38 pairs, texts of at most 2^47 bytes. -/
import Derived.Test.YtnlghdkgejimpaaPairSel
namespace Go.Proofs.Ytnlghdkgejimpaa
open Go.RowKit

def prevC  (k : ByteArray) : ByteArray → Bool := fun x => lss x.data.toList k.data.toList
def prevB : ByteArray → ByteArray → Bool := fun x b => lss b.data.toList x.data.toList

set_option maxHeartbeats 4000000 in
set_option maxRecDepth 100000 in
theorem rprev_any (v : Value) (k : ByteArray)  (ps : List (ByteArray × Int)) (w : World) (hr : RdP w v ps) (hn : ps.length ≤ 274877906944) (hk : k.size ≤ 140737488355328) (hs : ∀ p ∈ ps, p.1.size ≤ 140737488355328) :
    Calls Try.prog 24 #[v, .string k, .bool false] w fun e w' => SelGives w w' e (selP (prevC  k) prevB ps) := by
  obtain ⟨ao, c, rfl⟩ := hr.open
  have hi0 := hr.len
  have hnc := hi0.2.1
  have hcb := hi0.2.2
  have HR := Lib.hid hr
  have HS := Lib.hid (selP_step (prevC  k) prevB ps)
  have HF : Hid (selP (prevC  k) prevB (ps.take ps.length) = selP (prevC  k) prevB ps) := Lib.hid (by rw [List.take_length])
  have HM := Lib.hid (fun i => selP_mem (prevC  k) prevB (ps.take i))
  have HZ := Lib.hid hs
  clear hr hi0 hs
  obtain ⟨n, hL⟩ : ∃ n, n = ps.length := ⟨_, rfl⟩
  rw [← hL] at HR hnc HS HF hn ⊢
  have HLL := Lib.hid hL
  clear hL
  obtain ⟨hw1, hw2, hwb⟩ : Two ((w.alloc (.cells #[.string ⟨#[]⟩, .int .u64 0] 37)).alloc (.cells #[.string ⟨#[]⟩, .int .u64 0] 37)) w.heap.size (⟨#[]⟩, 0) ∧ Two ((w.alloc (.cells #[.string ⟨#[]⟩, .int .u64 0] 37)).alloc (.cells #[.string ⟨#[]⟩, .int .u64 0] 37)) (w.heap.size + 1) (⟨#[]⟩, 0) ∧ Below w.heap.size w ((w.alloc (.cells #[.string ⟨#[]⟩, .int .u64 0] 37)).alloc (.cells #[.string ⟨#[]⟩, .int .u64 0] 37)) := ⟨(two_alloc w _ _).1, (two_alloc w _ _).2.1, ((Below.refl _ _).alloc (Nat.le_refl _) _).alloc (by simp) _⟩
  have HW := Lib.hid (And.intro hw1 (And.intro hw2 hwb))
  clear hw1 hw2 hwb
  go_enter Try.func24, Try.ntmps24
  go_wp2
  go_loopw [9, 10] (fun sb si wr => ∃ (i : Nat) (b : Bool) (p : ByteArray × Int), si = .int .i64 i ∧ sb = .bool b ∧ i ≤ n ∧ Hid (Sel (prevC  k) prevB (ps.take i) b p) ∧ Hid (Two wr w.heap.size (⟨#[]⟩, 0)) ∧ Hid (Two wr (w.heap.size + 1) p) ∧ Hid (Below w.heap.size w wr)) (fun _ si _ => n - (intOf si).toNat)
  case atStart => exact ⟨0, false, (⟨#[]⟩, 0), rfl, rfl, Nat.zero_le _, Lib.hid (Or.inl ⟨rfl, rfl, rfl⟩), Lib.hid HW.out.1, Lib.hid HW.out.2.1, Lib.hid HW.out.2.2⟩
  case round =>
    obtain ⟨i, b, bp, rfl, rfl, hi, hsel, hT0, hT1, hb⟩ := hrel
    by_cases hlt : i < n
    · obtain ⟨g, o, rfl, hcs⟩ := (HR.out.keep hb.out).at_ i hlt
      have hc1 := (hcs i hlt).1
      have hc2 := (hcs i hlt).2
      have t0 := hT1.out.c0
      have t1 := hT1.out.c1
      have f0 := hT1.out.f (i := 0)
      have f1 := hT1.out.f (i := 1)
      have hstep := HS.out i hlt
      have hi1 : (i : Int) < n := by omega
      have hps : (ntp ps i).1.size ≤ 140737488355328 := by
        have := HLL.out
        rw [ntp_eq (by omega)]
        exact HZ.out _ (List.getElem_mem _)
      have hbs : bp.1.size ≤ 140737488355328 := by
        rcases hsel.out with ⟨_, rfl, _⟩ | ⟨_, h⟩
        · exact (by decide : (0 : Nat) ≤ 140737488355328)
        · exact HZ.out _ (List.mem_of_mem_take (HM.out i _ h).1)
      have H1 := fun (W : World) (m : Nat) => Lib.hid (lessQ (ntp ps i).1 k W m (hps) (hk))
      have H2 := fun (W : World) (m : Nat) => Lib.hid (lessQ bp.1 (ntp ps i).1 W m (hbs) (hps))
      clear hcs hps hbs
      generalize hp : ntp ps i = p at *
      clear hp
      have hcases : ((prevC  k p.1 = false) ∨ (prevC  k p.1 = true ∧ b = false) ∨ (prevC  k p.1 = true ∧ b = true ∧ prevB p.1 bp.1 = true) ∨ (prevC  k p.1 = true ∧ b = true ∧ prevB p.1 bp.1 = false)) := by
        cases prevC  k p.1 <;> cases b <;> cases prevB p.1 bp.1 <;> simp
      have hnew : (prevC  k p.1 = true) → (b = false ∨ prevB p.1 bp.1 = true) → selP (prevC  k) prevB (ps.take (i + 1)) = some p := fun hc hd => by
        rw [hstep]
        unfold selStep
        rcases hsel.out with ⟨rfl, _, e⟩ | ⟨rfl, e⟩
        · rw [e]; simp [beats, hc]
        · rcases hd with h | h
          · cases h
          · rw [e]; simp [beats, hc, h]
      have hold : (prevC  k p.1 = false ∨ (b = true ∧ prevB p.1 bp.1 = false)) → Sel (prevC  k) prevB (ps.take (i + 1)) b bp := fun hd => by
        unfold Sel
        rw [hstep]
        unfold selStep
        rcases hsel.out with ⟨rfl, e1, e⟩ | ⟨rfl, e⟩
        · rcases hd with h | ⟨h, _⟩
          · left; refine ⟨rfl, e1, ?_⟩; rw [e]; simp [h]
          · cases h
        · right; refine ⟨rfl, ?_⟩; rw [e]
          rcases hd with h | ⟨_, h⟩
          · simp [h]
          · simp [beats, h]
      have HNEW := Lib.hid hnew
      have HOLD := Lib.hid hold
      clear hstep hnew hold
      rcases hcases with h | ⟨h, rfl⟩ | ⟨h, rfl, h2⟩ | ⟨h, rfl, h2⟩
      · have HN2 := Lib.hid (HOLD.out (Or.inl h))
        clear hsel HNEW HOLD
        unfold prevC at h
        rw [h] at H1
        clear h
        go_wp2
        go_quiet ((first | (go_at_call 69; with_reducible exact (H1 _ _).out) | (go_at_call 69; with_reducible exact (H2 _ _).out)))
        go_wp2
        go_roundw
        case rel => exact ⟨i + 1, _, bp, by go_num, rfl, by omega, HN2, Lib.hid (hT0.out.drew ⟨_, rfl⟩), Lib.hid (hT1.out.drew ⟨_, rfl⟩), Lib.hid (hb.out.trans (drew_below ⟨_, rfl⟩ _))⟩
        case measure => simp [intOf]; omega
      · have HN2 := Lib.hid (HNEW.out h (Or.inl rfl))
        clear hsel HNEW HOLD
        unfold prevC at h
        rw [h] at H1
        clear h
        go_wp2
        go_quiet ((first | (go_at_call 69; with_reducible exact (H1 _ _).out) | (go_at_call 69; with_reducible exact (H2 _ _).out)))
        go_wp2
        go_roundw
        case rel => exact ⟨i + 1, true, p, by go_num, rfl, by omega, Lib.hid (Or.inr ⟨rfl, HN2.out⟩), Lib.hid (((hT0.out.drew ⟨_, rfl⟩).far (by omega)).far (by omega)), Lib.hid ((hT1.out.drew ⟨_, rfl⟩).set (q := p)), Lib.hid (((hb.out.trans (drew_below ⟨_, rfl⟩ _)).setCell (by simp) _).setCell (by simp) _)⟩
        case measure => simp [intOf]; omega
      · have HN2 := Lib.hid (HNEW.out h (Or.inr h2))
        clear hsel HNEW HOLD
        unfold prevC at h
        rw [h] at H1
        clear h
        unfold prevB at h2
        rw [h2] at H2
        clear h2
        go_wp2
        go_quiet ((first | (go_at_call 69; with_reducible exact (H1 _ _).out) | (go_at_call 69; with_reducible exact (H2 _ _).out)))
        go_wp2
        go_roundw
        case rel => exact ⟨i + 1, true, p, by go_num, rfl, by omega, Lib.hid (Or.inr ⟨rfl, HN2.out⟩), Lib.hid (((hT0.out.drew ⟨_, rfl⟩).far (by omega)).far (by omega)), Lib.hid ((hT1.out.drew ⟨_, rfl⟩).set (q := p)), Lib.hid (((hb.out.trans (drew_below ⟨_, rfl⟩ _)).setCell (by simp) _).setCell (by simp) _)⟩
        case measure => simp [intOf]; omega
      · have HN2 := Lib.hid (HOLD.out (Or.inr ⟨rfl, h2⟩))
        clear hsel HNEW HOLD
        unfold prevC at h
        rw [h] at H1
        clear h
        unfold prevB at h2
        rw [h2] at H2
        clear h2
        go_wp2
        go_quiet ((first | (go_at_call 69; with_reducible exact (H1 _ _).out) | (go_at_call 69; with_reducible exact (H2 _ _).out)))
        go_wp2
        go_roundw
        case rel => exact ⟨i + 1, _, bp, by go_num, rfl, by omega, HN2, Lib.hid (hT0.out.drew ⟨_, rfl⟩), Lib.hid (hT1.out.drew ⟨_, rfl⟩), Lib.hid (hb.out.trans (drew_below ⟨_, rfl⟩ _))⟩
        case measure => simp [intOf]; omega
    · obtain rfl : i = n := by omega
      have t0 := hT1.out.c0
      have t1 := hT1.out.c1
      have f0 := hT0.out.f (i := 0)
      have f1 := hT0.out.f (i := 1)
      have k0 := hT0.out.c0
      have k1 := hT0.out.c1
      have z0 := (hT0.out.set (q := bp)).c0
      have z1 := (hT0.out.set (q := bp)).c1
      have hfin := hsel.out
      unfold Sel at hfin
      rw [HF.out] at hfin
      have HFIN := Lib.hid hfin
      clear hfin
      go_wp2
      refine bodyPost_ret (v := .tuple #[.agg #[.string bp.1, .int .u64 bp.2], .bool b]) (by simp [results, Try.results24, go_sem, z0, z1]) rfl ⟨b, bp, rfl, HFIN.out, ?_⟩
      exact (hb.out.setCell (by simp) _).setCell (by simp) _

def prevTC (_ : ByteArray) : ByteArray → Bool := fun _ => true
def prevTB : ByteArray → ByteArray → Bool := fun x b => lss b.data.toList x.data.toList

set_option maxHeartbeats 4000000 in
set_option maxRecDepth 100000 in
theorem rprevT_any (v : Value) (k : ByteArray)  (ps : List (ByteArray × Int)) (w : World) (hr : RdP w v ps) (hn : ps.length ≤ 274877906944) (hs : ∀ p ∈ ps, p.1.size ≤ 140737488355328) :
    Calls Try.prog 24 #[v, .string k, .bool true] w fun e w' => SelGives w w' e (selP (prevTC  k) prevTB ps) := by
  obtain ⟨ao, c, rfl⟩ := hr.open
  have hi0 := hr.len
  have hnc := hi0.2.1
  have hcb := hi0.2.2
  have HR := Lib.hid hr
  have HS := Lib.hid (selP_step (prevTC  k) prevTB ps)
  have HF : Hid (selP (prevTC  k) prevTB (ps.take ps.length) = selP (prevTC  k) prevTB ps) := Lib.hid (by rw [List.take_length])
  have HM := Lib.hid (fun i => selP_mem (prevTC  k) prevTB (ps.take i))
  have HZ := Lib.hid hs
  clear hr hi0 hs
  obtain ⟨n, hL⟩ : ∃ n, n = ps.length := ⟨_, rfl⟩
  rw [← hL] at HR hnc HS HF hn ⊢
  have HLL := Lib.hid hL
  clear hL
  obtain ⟨hw1, hw2, hwb⟩ : Two ((w.alloc (.cells #[.string ⟨#[]⟩, .int .u64 0] 37)).alloc (.cells #[.string ⟨#[]⟩, .int .u64 0] 37)) w.heap.size (⟨#[]⟩, 0) ∧ Two ((w.alloc (.cells #[.string ⟨#[]⟩, .int .u64 0] 37)).alloc (.cells #[.string ⟨#[]⟩, .int .u64 0] 37)) (w.heap.size + 1) (⟨#[]⟩, 0) ∧ Below w.heap.size w ((w.alloc (.cells #[.string ⟨#[]⟩, .int .u64 0] 37)).alloc (.cells #[.string ⟨#[]⟩, .int .u64 0] 37)) := ⟨(two_alloc w _ _).1, (two_alloc w _ _).2.1, ((Below.refl _ _).alloc (Nat.le_refl _) _).alloc (by simp) _⟩
  have HW := Lib.hid (And.intro hw1 (And.intro hw2 hwb))
  clear hw1 hw2 hwb
  go_enter Try.func24, Try.ntmps24
  go_wp2
  go_loopw [9, 10] (fun sb si wr => ∃ (i : Nat) (b : Bool) (p : ByteArray × Int), si = .int .i64 i ∧ sb = .bool b ∧ i ≤ n ∧ Hid (Sel (prevTC  k) prevTB (ps.take i) b p) ∧ Hid (Two wr w.heap.size (⟨#[]⟩, 0)) ∧ Hid (Two wr (w.heap.size + 1) p) ∧ Hid (Below w.heap.size w wr)) (fun _ si _ => n - (intOf si).toNat)
  case atStart => exact ⟨0, false, (⟨#[]⟩, 0), rfl, rfl, Nat.zero_le _, Lib.hid (Or.inl ⟨rfl, rfl, rfl⟩), Lib.hid HW.out.1, Lib.hid HW.out.2.1, Lib.hid HW.out.2.2⟩
  case round =>
    obtain ⟨i, b, bp, rfl, rfl, hi, hsel, hT0, hT1, hb⟩ := hrel
    by_cases hlt : i < n
    · obtain ⟨g, o, rfl, hcs⟩ := (HR.out.keep hb.out).at_ i hlt
      have hc1 := (hcs i hlt).1
      have hc2 := (hcs i hlt).2
      have t0 := hT1.out.c0
      have t1 := hT1.out.c1
      have f0 := hT1.out.f (i := 0)
      have f1 := hT1.out.f (i := 1)
      have hstep := HS.out i hlt
      have hi1 : (i : Int) < n := by omega
      have hps : (ntp ps i).1.size ≤ 140737488355328 := by
        have := HLL.out
        rw [ntp_eq (by omega)]
        exact HZ.out _ (List.getElem_mem _)
      have hbs : bp.1.size ≤ 140737488355328 := by
        rcases hsel.out with ⟨_, rfl, _⟩ | ⟨_, h⟩
        · exact (by decide : (0 : Nat) ≤ 140737488355328)
        · exact HZ.out _ (List.mem_of_mem_take (HM.out i _ h).1)
      have H2 := fun (W : World) (m : Nat) => Lib.hid (lessQ bp.1 (ntp ps i).1 W m (hbs) (hps))
      clear hcs hps hbs
      generalize hp : ntp ps i = p at *
      clear hp
      have hcases : ((prevTC  k p.1 = false) ∨ (prevTC  k p.1 = true ∧ b = false) ∨ (prevTC  k p.1 = true ∧ b = true ∧ prevTB p.1 bp.1 = true) ∨ (prevTC  k p.1 = true ∧ b = true ∧ prevTB p.1 bp.1 = false)) := by
        cases prevTC  k p.1 <;> cases b <;> cases prevTB p.1 bp.1 <;> simp
      have hnew : (prevTC  k p.1 = true) → (b = false ∨ prevTB p.1 bp.1 = true) → selP (prevTC  k) prevTB (ps.take (i + 1)) = some p := fun hc hd => by
        rw [hstep]
        unfold selStep
        rcases hsel.out with ⟨rfl, _, e⟩ | ⟨rfl, e⟩
        · rw [e]; simp [beats, hc]
        · rcases hd with h | h
          · cases h
          · rw [e]; simp [beats, hc, h]
      have hold : (prevTC  k p.1 = false ∨ (b = true ∧ prevTB p.1 bp.1 = false)) → Sel (prevTC  k) prevTB (ps.take (i + 1)) b bp := fun hd => by
        unfold Sel
        rw [hstep]
        unfold selStep
        rcases hsel.out with ⟨rfl, e1, e⟩ | ⟨rfl, e⟩
        · rcases hd with h | ⟨h, _⟩
          · left; refine ⟨rfl, e1, ?_⟩; rw [e]; simp [h]
          · cases h
        · right; refine ⟨rfl, ?_⟩; rw [e]
          rcases hd with h | ⟨_, h⟩
          · simp [h]
          · simp [beats, h]
      have HNEW := Lib.hid hnew
      have HOLD := Lib.hid hold
      clear hstep hnew hold
      rcases hcases with h | ⟨h, rfl⟩ | ⟨h, rfl, h2⟩ | ⟨h, rfl, h2⟩
      · unfold prevTC at h
        cases h
      · have HN2 := Lib.hid (HNEW.out h (Or.inl rfl))
        clear hsel HNEW HOLD h
        go_wp2
        go_quiet ((go_at_call 69; with_reducible exact (H2 _ _).out))
        go_wp2
        go_roundw
        case rel => exact ⟨i + 1, true, p, by go_num, rfl, by omega, Lib.hid (Or.inr ⟨rfl, HN2.out⟩), Lib.hid (((hT0.out.drew ⟨_, rfl⟩).far (by omega)).far (by omega)), Lib.hid ((hT1.out.drew ⟨_, rfl⟩).set (q := p)), Lib.hid (((hb.out.trans (drew_below ⟨_, rfl⟩ _)).setCell (by simp) _).setCell (by simp) _)⟩
        case measure => simp [intOf]; omega
      · have HN2 := Lib.hid (HNEW.out h (Or.inr h2))
        clear hsel HNEW HOLD h
        unfold prevTB at h2
        rw [h2] at H2
        clear h2
        go_wp2
        go_quiet ((go_at_call 69; with_reducible exact (H2 _ _).out))
        go_wp2
        go_roundw
        case rel => exact ⟨i + 1, true, p, by go_num, rfl, by omega, Lib.hid (Or.inr ⟨rfl, HN2.out⟩), Lib.hid (((hT0.out.drew ⟨_, rfl⟩).far (by omega)).far (by omega)), Lib.hid ((hT1.out.drew ⟨_, rfl⟩).set (q := p)), Lib.hid (((hb.out.trans (drew_below ⟨_, rfl⟩ _)).setCell (by simp) _).setCell (by simp) _)⟩
        case measure => simp [intOf]; omega
      · have HN2 := Lib.hid (HOLD.out (Or.inr ⟨rfl, h2⟩))
        clear hsel HNEW HOLD h
        unfold prevTB at h2
        rw [h2] at H2
        clear h2
        go_wp2
        go_quiet ((go_at_call 69; with_reducible exact (H2 _ _).out))
        go_wp2
        go_roundw
        case rel => exact ⟨i + 1, _, bp, by go_num, rfl, by omega, HN2, Lib.hid (hT0.out.drew ⟨_, rfl⟩), Lib.hid (hT1.out.drew ⟨_, rfl⟩), Lib.hid (hb.out.trans (drew_below ⟨_, rfl⟩ _))⟩
        case measure => simp [intOf]; omega
    · obtain rfl : i = n := by omega
      have t0 := hT1.out.c0
      have t1 := hT1.out.c1
      have f0 := hT0.out.f (i := 0)
      have f1 := hT0.out.f (i := 1)
      have k0 := hT0.out.c0
      have k1 := hT0.out.c1
      have z0 := (hT0.out.set (q := bp)).c0
      have z1 := (hT0.out.set (q := bp)).c1
      have hfin := hsel.out
      unfold Sel at hfin
      rw [HF.out] at hfin
      have HFIN := Lib.hid hfin
      clear hfin
      go_wp2
      refine bodyPost_ret (v := .tuple #[.agg #[.string bp.1, .int .u64 bp.2], .bool b]) (by simp [results, Try.results24, go_sem, z0, z1]) rfl ⟨b, bp, rfl, HFIN.out, ?_⟩
      exact (hb.out.setCell (by simp) _).setCell (by simp) _
end Go.Proofs.Ytnlghdkgejimpaa
