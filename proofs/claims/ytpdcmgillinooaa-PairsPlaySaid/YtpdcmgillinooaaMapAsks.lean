/- bowerlaw06.asks: of a map and the document's pairs that are kept as one it answers true, and nothing that was there has turned. Conditions: at most 2^37 pairs, texts of at most 2^47 bytes. -/
import Derived.Test.YtpdcmgillinooaaPlayBase
import Derived.Deep.RegionHeldLaw
import Derived.Deep.CutRange
namespace Go.Proofs.Ytpdcmgillinooaa
open Go.RowKit

def optP (r : Option (ByteArray × Int)) : ByteArray × Int := match r with | some p => p | none => (⟨#[]⟩, 0)

theorem SelGives.fix {w w' : World} {e : Ending} {r : Option (ByteArray × Int)} (h : SelGives w w' e r) : e = .returned (.tuple #[.agg #[.string (optP r).1, .int .u64 (optP r).2], .bool r.isSome]) ∧ Below w.heap.size w w' := by
  obtain ⟨b, p, rfl, h, hb⟩ := h
  rcases h with ⟨rfl, rfl, rfl⟩ | ⟨rfl, rfl⟩
  · exact ⟨rfl, hb⟩
  · exact ⟨rfl, hb⟩

/-- What asks looks at: the map, the document's row, the act, and the pairs that were told. -/
structure Asked (w : World) (B g : Nat) (kv vv : Value) (ss ps : List (ByteArray × Int)) (v : Value) (ab : Nat) (x : It) (bs : List (Nat × (ByteArray × Int))) : Prop where
  map : MapAt w B g kv vv ss
  row : RdP w v ps
  act : w.heap[ab]? = some (.cells x.vals.toArray 31 (0, 0))
  boxes : ∀ b ∈ bs, Two w b.1 b.2

section
variable {w w' : World} {B g ab : Nat} {kv vv v : Value} {ss ps : List (ByteArray × Int)} {x : It} {bs : List (Nat × (ByteArray × Int))}
theorem Asked.keep (h : Asked w B g kv vv ss ps v ab x bs) (hb : Below w.heap.size w w') : Asked w' B g kv vv ss ps v ab x bs :=
  ⟨h.map.keepB hb, h.row.keep hb, by rw [hb.block ab (lt_of_block h.act)]; exact h.act, fun b hbs => (h.boxes b hbs).keep hb⟩
theorem Asked.add (h : Asked w B g kv vv ss ps v ab x bs) (p : ByteArray × Int) : Asked (w.alloc (.cells #[.string p.1, .int .u64 p.2] 40)) B g kv vv ss ps v ab x ((w.heap.size, p) :: bs) := by
  have h2 := h.keep (one_alloc w (.cells #[.string p.1, .int .u64 p.2] 40)).2
  refine ⟨h2.map, h2.row, h2.act, fun b hb => ?_⟩
  rcases List.mem_cons.1 hb with rfl | hb
  · exact heap_alloc_new _ _
  · exact h2.boxes b hb
theorem Asked.c1 (h : Asked w B g kv vv ss ps v ab x bs) : w.cell? ⟨ab, 1, none⟩ = some (.string x.key) := by rw [cell_of_heap h.act]; rfl
theorem Asked.c3 (h : Asked w B g kv vv ss ps v ab x bs) : w.cell? ⟨ab, 3, none⟩ = some (.string x.high) := by rw [cell_of_heap h.act]; rfl
theorem Asked.c4 (h : Asked w B g kv vv ss ps v ab x bs) : w.cell? ⟨ab, 4, none⟩ = some (.int .i64 x.limit) := by rw [cell_of_heap h.act]; rfl
end

theorem optP_first {ss : List (ByteArray × Int)} (h : 0 < ss.length) : ss[0]?.isSome = true ∧ optP ss[0]? = ntp ss 0 := by
  rw [List.getElem?_eq_getElem h, ntp_eq h]; exact ⟨rfl, rfl⟩
theorem optP_none {ss : List (ByteArray × Int)} (h : ss.length = 0) : ss[0]?.isSome = false ∧ optP ss[0]? = (⟨#[]⟩, 0) := by
  rw [List.getElem?_eq_none (by omega)]; exact ⟨rfl, rfl⟩

theorem below_add {w0 w1 : World} (h : Below w0.heap.size w0 w1) (o : Obj) : Below w0.heap.size w0 (w1.alloc o) := h.alloc h.size o

set_option maxHeartbeats 16000000 in
set_option maxRecDepth 100000 in
theorem asks_any (B g : Nat) (kv vv v : Value) (x : It) (ps ss : List (ByteArray × Int)) (w : World) (hm : MapAt w B g kv vv ss) (hr : RdP w v ps) (hk : Kept ps ss) (hf : FineP ps) (hx1 : x.key.size ≤ 140737488355328) (hx2 : x.high.size ≤ 140737488355328) (hx3 : -9223372036854775808 ≤ x.limit ∧ x.limit ≤ 9223372036854775807) :
    Calls Try.prog 14 #[.pointer (some ⟨g, 0, none⟩), v, .agg x.vals.toArray] w fun e w' => e = .returned (.bool true) ∧ Below w.heap.size w w' := by
  have hfine := hf.fine hk
  have hpl : ps.length ≤ 274877906944 := by have := hf.len; omega
  have CGET := Lib.hid (fun W {bs} (h : Asked W B g kv vv ss ps v w.heap.size x bs) => mget_any B g kv vv x.key ps ss W h.map hfine hx1 hk)
  have CRGET := Lib.hid (fun W {bs} (h : Asked W B g kv vv ss ps v w.heap.size x bs) => rget_any v x.key ps W h.row)
  have CNEXT := Lib.hid (fun W {bs} (h : Asked W B g kv vv ss ps v w.heap.size x bs) => mnext_any B g kv vv x.key ps ss W h.map hfine hx1 hk)
  have CRNEXT := Lib.hid (fun W {bs} (h : Asked W B g kv vv ss ps v w.heap.size x bs) => rnext_any v x.key ps W h.row hpl hx1 hf.size)
  have CPREV := Lib.hid (fun W {bs} (h : Asked W B g kv vv ss ps v w.heap.size x bs) => mprev_any B g kv vv x.key ps ss W h.map hfine hx1 hk)
  have CRPREV := Lib.hid (fun W {bs} (h : Asked W B g kv vv ss ps v w.heap.size x bs) => rprev_any v x.key ps W h.row hpl hx1 hf.size)
  have CMAX := Lib.hid (fun W {bs} (h : Asked W B g kv vv ss ps v w.heap.size x bs) => mmax_any B g kv vv ps ss W h.map hfine hk)
  have CRMAX := Lib.hid (fun W {bs} (h : Asked W B g kv vv ss ps v w.heap.size x bs) => rprevT_any v ⟨#[]⟩ ps W h.row hpl hf.size)
  have CMIN := Lib.hid (fun W {bs} (h : Asked W B g kv vv ss ps v w.heap.size x bs) => mmin_any B g kv vv ss W h.map)
  have CALL := Lib.hid (fun W {bs} (h : Asked W B g kv vv ss ps v w.heap.size x bs) => mall_any B g kv vv ss W h.map hfine.len)
  have CRALL := Lib.hid (fun W {bs} (h : Asked W B g kv vv ss ps v w.heap.size x bs) => rall_any v ps ss W h.row hk.same hk.rise hk.len hpl hf.size)
  have CSCAN := Lib.hid (fun W {bs} (h : Asked W B g kv vv ss ps v w.heap.size x bs) => mscan_any B g kv vv x.key x.high x.limit ss W h.map hfine hx1 hx2 hx3.1 hx3.2)
  have CRSCAN := Lib.hid (fun W {bs} (h : Asked W B g kv vv ss ps v w.heap.size x bs) => rscan_any v x.key x.high x.limit ps ss W h.row hk.same hk.rise hk.len hpl hf.size hx1 hx2 hx3.1 hx3.2)
  have CLEN := Lib.hid (fun W {bs} (h : Asked W B g kv vv ss ps v w.heap.size x bs) => mlen_any B g kv vv ss W h.map)
  have hob := (one_alloc w (.cells x.vals.toArray 31)).2
  have S0 : Hid (Asked (w.alloc (.cells x.vals.toArray 31)) B g kv vv ss ps v w.heap.size x []) := Lib.hid ⟨hm.keepB hob, hr.keep hob, heap_alloc_new _ _, fun b hb => by cases hb⟩
  have B0 := Lib.hid hob
  obtain ⟨ao, c, hv⟩ := hr.open
  have HPL := Lib.hid hk.len
  have hln := hf.len
  have HMX := Lib.hid (optP_first (ss := ss))
  have HMN := Lib.hid (optP_none (ss := ss))
  obtain ⟨kind, key, val, high, limit⟩ := x
  have k1 : _ = some (Value.string key) := S0.out.c1
  subst hv
  clear hm hr hk hf hfine hpl hx1 hx2 hx3 hob
  generalize ps.length = n at *
  go_enter Try.func14, Try.ntmps14
  go_wp2_with fail
  refine (CGET.out _ S0.out).mono ?_
  rintro e w1 ⟨rfl, hb⟩
  have S1 := Lib.hid (S0.out.keep hb)
  have B1 := Lib.hid (B0.out.trans (hb.mono B0.out.size))
  clear hb S0 B0 k1
  have k1 : w1.cell? ⟨w.heap.size, 1, none⟩ = some (Value.string key) := S1.out.c1
  go_wp2_with fail
  refine (CRGET.out _ S1.out).mono ?_
  rintro e w2 ⟨rfl, rfl⟩
  generalize getP ps key = gr at *
  go_wp2_with fail
  refine (CNEXT.out _ S1.out).mono ?_
  rintro e w3 hsel
  obtain ⟨rfl, hb⟩ := hsel.fix
  have S3a := Lib.hid (S1.out.keep hb)
  have B3a := Lib.hid (B1.out.trans (hb.mono B1.out.size))
  obtain ⟨qnx, hqnx⟩ : ∃ q, q = optP (selP (nextC key) nextB ps) := ⟨_, rfl⟩
  obtain ⟨bnx, hbnx⟩ : ∃ b, b = (selP (nextC key) nextB ps).isSome := ⟨_, rfl⟩
  have HQnx := Lib.hid hqnx
  have HBnx := Lib.hid hbnx
  rw [← hqnx, ← hbnx]
  clear hqnx hbnx
  have S3 := Lib.hid (S3a.out.add qnx)
  have B3 := Lib.hid (below_add B3a.out (.cells #[.string qnx.1, .int .u64 qnx.2] 40))
  clear hb hsel S3a B3a S1 B1 k1
  have k1 : _ = some (Value.string key) := S3.out.c1
  go_wp2_with fail
  refine (CRNEXT.out _ S3.out).mono ?_
  rintro e w4 hsel
  obtain ⟨rfl, hb⟩ := hsel.fix
  have S4a := Lib.hid (S3.out.keep hb)
  have B4a := Lib.hid (B3.out.trans (hb.mono B3.out.size))
  rw [← HQnx.out, ← HBnx.out]
  have S4 := Lib.hid (S4a.out.add qnx)
  have B4 := Lib.hid (below_add B4a.out (.cells #[.string qnx.1, .int .u64 qnx.2] 40))
  clear hb hsel S4a B4a S3 B3 k1
  have k1 : _ = some (Value.string key) := S4.out.c1
  go_wp2_with fail
  refine (CPREV.out _ S4.out).mono ?_
  rintro e w5 hsel
  obtain ⟨rfl, hb⟩ := hsel.fix
  have S5a := Lib.hid (S4.out.keep hb)
  have B5a := Lib.hid (B4.out.trans (hb.mono B4.out.size))
  obtain ⟨qpv, hqpv⟩ : ∃ q, q = optP (selP (prevC key) prevB ps) := ⟨_, rfl⟩
  obtain ⟨bpv, hbpv⟩ : ∃ b, b = (selP (prevC key) prevB ps).isSome := ⟨_, rfl⟩
  have HQpv := Lib.hid hqpv
  have HBpv := Lib.hid hbpv
  rw [← hqpv, ← hbpv]
  clear hqpv hbpv
  have S5 := Lib.hid (S5a.out.add qpv)
  have B5 := Lib.hid (below_add B5a.out (.cells #[.string qpv.1, .int .u64 qpv.2] 40))
  clear hb hsel S5a B5a S4 B4 k1
  have k1 : _ = some (Value.string key) := S5.out.c1
  go_wp2_with fail
  refine (CRPREV.out _ S5.out).mono ?_
  rintro e w6 hsel
  obtain ⟨rfl, hb⟩ := hsel.fix
  have S6a := Lib.hid (S5.out.keep hb)
  have B6a := Lib.hid (B5.out.trans (hb.mono B5.out.size))
  rw [← HQpv.out, ← HBpv.out]
  have S6 := Lib.hid (S6a.out.add qpv)
  have B6 := Lib.hid (below_add B6a.out (.cells #[.string qpv.1, .int .u64 qpv.2] 40))
  clear hb hsel S6a B6a S5 B5 k1
  have k1 : _ = some (Value.string key) := S6.out.c1
  go_wp2_with fail
  refine (CMAX.out _ S6.out).mono ?_
  rintro e w7 hsel
  obtain ⟨rfl, hb⟩ := hsel.fix
  have S7a := Lib.hid (S6.out.keep hb)
  have B7a := Lib.hid (B6.out.trans (hb.mono B6.out.size))
  obtain ⟨qmx, hqmx⟩ : ∃ q, q = optP (selP (prevTC ⟨#[]⟩) prevTB ps) := ⟨_, rfl⟩
  obtain ⟨bmx, hbmx⟩ : ∃ b, b = (selP (prevTC ⟨#[]⟩) prevTB ps).isSome := ⟨_, rfl⟩
  have HQmx := Lib.hid hqmx
  have HBmx := Lib.hid hbmx
  rw [← hqmx, ← hbmx]
  clear hqmx hbmx
  have S7 := Lib.hid (S7a.out.add qmx)
  have B7 := Lib.hid (below_add B7a.out (.cells #[.string qmx.1, .int .u64 qmx.2] 40))
  clear hb hsel S7a B7a S6 B6 k1
  have k1 : _ = some (Value.string key) := S7.out.c1
  go_wp2_with fail
  refine (CRMAX.out _ S7.out).mono ?_
  rintro e w8 hsel
  obtain ⟨rfl, hb⟩ := hsel.fix
  have S8a := Lib.hid (S7.out.keep hb)
  have B8a := Lib.hid (B7.out.trans (hb.mono B7.out.size))
  rw [← HQmx.out, ← HBmx.out]
  have S8 := Lib.hid (S8a.out.add qmx)
  have B8 := Lib.hid (below_add B8a.out (.cells #[.string qmx.1, .int .u64 qmx.2] 40))
  clear hb hsel S8a B8a S7 B7 k1
  have k1 : _ = some (Value.string key) := S8.out.c1
  go_wp2_with fail
  refine (CMIN.out _ S8.out).mono ?_
  rintro e w9 hsel
  obtain ⟨rfl, hb⟩ := hsel.fix
  have S9a := Lib.hid (S8.out.keep hb)
  have B9a := Lib.hid (B8.out.trans (hb.mono B8.out.size))
  obtain ⟨qmi, hqmi⟩ : ∃ q, q = optP (ss[0]?) := ⟨_, rfl⟩
  obtain ⟨bmi, hbmi⟩ : ∃ b, b = (ss[0]?).isSome := ⟨_, rfl⟩
  have HQmi := Lib.hid hqmi
  have HBmi := Lib.hid hbmi
  rw [← hqmi, ← hbmi]
  clear hqmi hbmi
  have S9 := Lib.hid (S9a.out.add qmi)
  have B9 := Lib.hid (below_add B9a.out (.cells #[.string qmi.1, .int .u64 qmi.2] 40))
  clear hb hsel S9a B9a S8 B8 k1
  have k1 : _ = some (Value.string key) := S9.out.c1
  clear k1
  go_wp2_with fail
  refine (CRALL.out _ S9.out).mono ?_
  rintro e w10 ⟨va, rfl, hO, hb⟩
  have S10 := Lib.hid (S9.out.keep hb)
  have B10 := Lib.hid (B9.out.trans (hb.mono B9.out.size))
  have RA := Lib.hid hO.rd
  clear hO hb S9 B9
  obtain ⟨aa, ca, rfl⟩ := RA.out.open
  have tw3 : Two w10 w3.heap.size qnx := S10.out.boxes (w3.heap.size, qnx) (by simp)
  have tw30 := tw3.c0
  have tw31 := tw3.c1
  have tw4 : Two w10 w4.heap.size qnx := S10.out.boxes (w4.heap.size, qnx) (by simp)
  have tw40 := tw4.c0
  have tw41 := tw4.c1
  have tw5 : Two w10 w5.heap.size qpv := S10.out.boxes (w5.heap.size, qpv) (by simp)
  have tw50 := tw5.c0
  have tw51 := tw5.c1
  have tw6 : Two w10 w6.heap.size qpv := S10.out.boxes (w6.heap.size, qpv) (by simp)
  have tw60 := tw6.c0
  have tw61 := tw6.c1
  have tw7 : Two w10 w7.heap.size qmx := S10.out.boxes (w7.heap.size, qmx) (by simp)
  have tw70 := tw7.c0
  have tw71 := tw7.c1
  have tw8 : Two w10 w8.heap.size qmx := S10.out.boxes (w8.heap.size, qmx) (by simp)
  have tw80 := tw8.c0
  have tw81 := tw8.c1
  have tw9 : Two w10 w9.heap.size qmi := S10.out.boxes (w9.heap.size, qmi) (by simp)
  have tw90 := tw9.c0
  have tw91 := tw9.c1
  clear tw3 tw4 tw5 tw6 tw7 tw8 tw9
  have k1 : w10.cell? ⟨w.heap.size, 1, none⟩ = some (Value.string key) := S10.out.c1
  have k3 : w10.cell? ⟨w.heap.size, 3, none⟩ = some (Value.string high) := S10.out.c3
  have k4 : w10.cell? ⟨w.heap.size, 4, none⟩ = some (Value.int .i64 limit) := S10.out.c4
  obtain ⟨m, hmm⟩ : ∃ m, m = ss.length := ⟨_, rfl⟩
  rw [← hmm] at HPL HMX HMN RA CLEN ⊢
  clear hmm
  obtain rfl : n = m := HPL.out
  go_upto_region 11 with (fail)
  go_cut [108] from 85 to 108 (fun s wx => s = .bool false ∧ Below w10.heap.size w10 wx)
  case first =>
    by_cases hz : n = 0
    · have h1 := HMN.out hz
      rw [← HBmi.out, ← HQmi.out] at h1
      obtain ⟨rfl, rfl⟩ := h1
      subst hz
      go_quiet (fail)
      go_wp2
      go_meet
      exact ⟨rfl, drew_below ⟨_, rfl⟩ _⟩
    · have h1 := HMX.out (by omega)
      rw [← HBmi.out, ← HQmi.out] at h1
      obtain ⟨h2, h3⟩ := h1
      subst h2
      obtain ⟨ag, ao2, rfl, hcs⟩ := RA.out.at_ 0 (by omega)
      have d0 := (hcs 0 (by omega)).1
      have d1 := (hcs 0 (by omega)).2
      rw [← h3, Nat.zero_mul, Nat.add_zero] at d0
      rw [← h3, Nat.zero_mul, Nat.add_zero] at d1
      have g0 : (0 : Int) < n := by omega
      have g1 : 0 < n := by omega
      clear hcs h3 hz
      go_quiet (fail)
      go_wp2
      go_meet
      exact ⟨rfl, drew_below ⟨_, rfl⟩ _⟩
  case rest =>
    obtain ⟨rfl, D11⟩ := hcut

    obtain ⟨w11, hw11⟩ : ∃ u : World, u = wc := ⟨_, rfl⟩
    rw [← hw11] at D11 ⊢
    clear hw11
    have S11 := S10.out.keep D11
    have B11 := Lib.hid (B10.out.trans (D11.mono B10.out.size))
    have RA11 := RA.out.keep D11
    clear D11 S10 B10 RA tw30 tw31 tw40 tw41 tw50 tw51 tw60 tw61 tw70 tw71 tw80 tw81 tw90 tw91 k1 k3 k4
    have HC : Hid (∀ W, Below w11.heap.size w11 W → W.cell? ⟨w3.heap.size, 0, none⟩ = some (.string qnx.1) ∧ W.cell? ⟨w3.heap.size, 1, none⟩ = some (.int .u64 qnx.2) ∧ W.cell? ⟨w4.heap.size, 0, none⟩ = some (.string qnx.1) ∧ W.cell? ⟨w4.heap.size, 1, none⟩ = some (.int .u64 qnx.2) ∧ W.cell? ⟨w5.heap.size, 0, none⟩ = some (.string qpv.1) ∧ W.cell? ⟨w5.heap.size, 1, none⟩ = some (.int .u64 qpv.2) ∧ W.cell? ⟨w6.heap.size, 0, none⟩ = some (.string qpv.1) ∧ W.cell? ⟨w6.heap.size, 1, none⟩ = some (.int .u64 qpv.2) ∧ W.cell? ⟨w7.heap.size, 0, none⟩ = some (.string qmx.1) ∧ W.cell? ⟨w7.heap.size, 1, none⟩ = some (.int .u64 qmx.2) ∧ W.cell? ⟨w8.heap.size, 0, none⟩ = some (.string qmx.1) ∧ W.cell? ⟨w8.heap.size, 1, none⟩ = some (.int .u64 qmx.2) ∧ W.cell? ⟨w.heap.size, 1, none⟩ = some (.string key) ∧ W.cell? ⟨w.heap.size, 3, none⟩ = some (.string high) ∧ W.cell? ⟨w.heap.size, 4, none⟩ = some (.int .i64 limit) ∧ Below w11.heap.size w11 W) := Lib.hid (fun W h => by
      have S := S11.keep h
      exact ⟨(S.boxes (w3.heap.size, qnx) (by simp)).c0, (S.boxes (w3.heap.size, qnx) (by simp)).c1, (S.boxes (w4.heap.size, qnx) (by simp)).c0, (S.boxes (w4.heap.size, qnx) (by simp)).c1, (S.boxes (w5.heap.size, qpv) (by simp)).c0, (S.boxes (w5.heap.size, qpv) (by simp)).c1, (S.boxes (w6.heap.size, qpv) (by simp)).c0, (S.boxes (w6.heap.size, qpv) (by simp)).c1, (S.boxes (w7.heap.size, qmx) (by simp)).c0, (S.boxes (w7.heap.size, qmx) (by simp)).c1, (S.boxes (w8.heap.size, qmx) (by simp)).c0, (S.boxes (w8.heap.size, qmx) (by simp)).c1, S.c1, S.c3, S.c4, h⟩)
    have hS0 := HC.out w11.drew (Below.refl _ _).drew
    have KLEN : Hid (∀ W, (W.cell? ⟨w3.heap.size, 0, none⟩ = some (.string qnx.1) ∧ W.cell? ⟨w3.heap.size, 1, none⟩ = some (.int .u64 qnx.2) ∧ W.cell? ⟨w4.heap.size, 0, none⟩ = some (.string qnx.1) ∧ W.cell? ⟨w4.heap.size, 1, none⟩ = some (.int .u64 qnx.2) ∧ W.cell? ⟨w5.heap.size, 0, none⟩ = some (.string qpv.1) ∧ W.cell? ⟨w5.heap.size, 1, none⟩ = some (.int .u64 qpv.2) ∧ W.cell? ⟨w6.heap.size, 0, none⟩ = some (.string qpv.1) ∧ W.cell? ⟨w6.heap.size, 1, none⟩ = some (.int .u64 qpv.2) ∧ W.cell? ⟨w7.heap.size, 0, none⟩ = some (.string qmx.1) ∧ W.cell? ⟨w7.heap.size, 1, none⟩ = some (.int .u64 qmx.2) ∧ W.cell? ⟨w8.heap.size, 0, none⟩ = some (.string qmx.1) ∧ W.cell? ⟨w8.heap.size, 1, none⟩ = some (.int .u64 qmx.2) ∧ W.cell? ⟨w.heap.size, 1, none⟩ = some (.string key) ∧ W.cell? ⟨w.heap.size, 3, none⟩ = some (.string high) ∧ W.cell? ⟨w.heap.size, 4, none⟩ = some (.int .i64 limit) ∧ Below w11.heap.size w11 W) → Calls Try.prog 22 #[.pointer (some ⟨g, 0, none⟩)] W fun e w' => e = .returned (.int .i64 n) ∧ W = w') := Lib.hid (fun W h => CLEN.out W (S11.keep h.2.2.2.2.2.2.2.2.2.2.2.2.2.2.2))
    have KALL : Hid (∀ W, (W.cell? ⟨w3.heap.size, 0, none⟩ = some (.string qnx.1) ∧ W.cell? ⟨w3.heap.size, 1, none⟩ = some (.int .u64 qnx.2) ∧ W.cell? ⟨w4.heap.size, 0, none⟩ = some (.string qnx.1) ∧ W.cell? ⟨w4.heap.size, 1, none⟩ = some (.int .u64 qnx.2) ∧ W.cell? ⟨w5.heap.size, 0, none⟩ = some (.string qpv.1) ∧ W.cell? ⟨w5.heap.size, 1, none⟩ = some (.int .u64 qpv.2) ∧ W.cell? ⟨w6.heap.size, 0, none⟩ = some (.string qpv.1) ∧ W.cell? ⟨w6.heap.size, 1, none⟩ = some (.int .u64 qpv.2) ∧ W.cell? ⟨w7.heap.size, 0, none⟩ = some (.string qmx.1) ∧ W.cell? ⟨w7.heap.size, 1, none⟩ = some (.int .u64 qmx.2) ∧ W.cell? ⟨w8.heap.size, 0, none⟩ = some (.string qmx.1) ∧ W.cell? ⟨w8.heap.size, 1, none⟩ = some (.int .u64 qmx.2) ∧ W.cell? ⟨w.heap.size, 1, none⟩ = some (.string key) ∧ W.cell? ⟨w.heap.size, 3, none⟩ = some (.string high) ∧ W.cell? ⟨w.heap.size, 4, none⟩ = some (.int .i64 limit) ∧ Below w11.heap.size w11 W) → Calls Try.prog 17 #[.pointer (some ⟨g, 0, none⟩)] W fun e w' => ∃ ao c m, e = .returned (.slice ao m c) ∧ RdP w' (.slice ao m c) ss ∧ RdP w' (.slice aa n ca) ss ∧ Below w11.heap.size w11 w') := Lib.hid (fun W h => (CALL.out W (S11.keep h.2.2.2.2.2.2.2.2.2.2.2.2.2.2.2)).mono (fun e w' ⟨vb, h1, h2, h3⟩ => by
      obtain ⟨ao, c, rfl⟩ := h2.rd.open
      exact ⟨ao, c, _, h1, h2.rd, (RA11.keep h.2.2.2.2.2.2.2.2.2.2.2.2.2.2.2).keep h3, h.2.2.2.2.2.2.2.2.2.2.2.2.2.2.2.trans (h3.mono h.2.2.2.2.2.2.2.2.2.2.2.2.2.2.2.size)⟩))
    have KSC : Hid (∀ W, (W.cell? ⟨w3.heap.size, 0, none⟩ = some (.string qnx.1) ∧ W.cell? ⟨w3.heap.size, 1, none⟩ = some (.int .u64 qnx.2) ∧ W.cell? ⟨w4.heap.size, 0, none⟩ = some (.string qnx.1) ∧ W.cell? ⟨w4.heap.size, 1, none⟩ = some (.int .u64 qnx.2) ∧ W.cell? ⟨w5.heap.size, 0, none⟩ = some (.string qpv.1) ∧ W.cell? ⟨w5.heap.size, 1, none⟩ = some (.int .u64 qpv.2) ∧ W.cell? ⟨w6.heap.size, 0, none⟩ = some (.string qpv.1) ∧ W.cell? ⟨w6.heap.size, 1, none⟩ = some (.int .u64 qpv.2) ∧ W.cell? ⟨w7.heap.size, 0, none⟩ = some (.string qmx.1) ∧ W.cell? ⟨w7.heap.size, 1, none⟩ = some (.int .u64 qmx.2) ∧ W.cell? ⟨w8.heap.size, 0, none⟩ = some (.string qmx.1) ∧ W.cell? ⟨w8.heap.size, 1, none⟩ = some (.int .u64 qmx.2) ∧ W.cell? ⟨w.heap.size, 1, none⟩ = some (.string key) ∧ W.cell? ⟨w.heap.size, 3, none⟩ = some (.string high) ∧ W.cell? ⟨w.heap.size, 4, none⟩ = some (.int .i64 limit) ∧ Below w11.heap.size w11 W) → Calls Try.prog 23 #[.pointer (some ⟨g, 0, none⟩), .string key, .string high, .int .i64 limit] W fun e w' => ∃ ao c m, e = .returned (.slice ao m c) ∧ RdP w' (.slice ao m c) (scanP ss key high limit) ∧ Below w11.heap.size w11 w') := Lib.hid (fun W h => (CSCAN.out W (S11.keep h.2.2.2.2.2.2.2.2.2.2.2.2.2.2.2)).mono (fun e w' ⟨vb, h1, h2, h3⟩ => by
      obtain ⟨ao, c, rfl⟩ := h2.rd.open
      exact ⟨ao, c, _, h1, h2.rd, h.2.2.2.2.2.2.2.2.2.2.2.2.2.2.2.trans (h3.mono h.2.2.2.2.2.2.2.2.2.2.2.2.2.2.2.size)⟩))
    have KRSC : Hid (∀ W, (W.cell? ⟨w3.heap.size, 0, none⟩ = some (.string qnx.1) ∧ W.cell? ⟨w3.heap.size, 1, none⟩ = some (.int .u64 qnx.2) ∧ W.cell? ⟨w4.heap.size, 0, none⟩ = some (.string qnx.1) ∧ W.cell? ⟨w4.heap.size, 1, none⟩ = some (.int .u64 qnx.2) ∧ W.cell? ⟨w5.heap.size, 0, none⟩ = some (.string qpv.1) ∧ W.cell? ⟨w5.heap.size, 1, none⟩ = some (.int .u64 qpv.2) ∧ W.cell? ⟨w6.heap.size, 0, none⟩ = some (.string qpv.1) ∧ W.cell? ⟨w6.heap.size, 1, none⟩ = some (.int .u64 qpv.2) ∧ W.cell? ⟨w7.heap.size, 0, none⟩ = some (.string qmx.1) ∧ W.cell? ⟨w7.heap.size, 1, none⟩ = some (.int .u64 qmx.2) ∧ W.cell? ⟨w8.heap.size, 0, none⟩ = some (.string qmx.1) ∧ W.cell? ⟨w8.heap.size, 1, none⟩ = some (.int .u64 qmx.2) ∧ W.cell? ⟨w.heap.size, 1, none⟩ = some (.string key) ∧ W.cell? ⟨w.heap.size, 3, none⟩ = some (.string high) ∧ W.cell? ⟨w.heap.size, 4, none⟩ = some (.int .i64 limit) ∧ Below w11.heap.size w11 W) → Calls Try.prog 33 #[.slice ao n c, .string key, .string high, .int .i64 limit] W fun e w' => ∃ ao c m, e = .returned (.slice ao m c) ∧ RdP w' (.slice ao m c) (scanP ss key high limit) ∧ Below w11.heap.size w11 w' ∧ Below W.heap.size W w') := Lib.hid (fun W h => (CRSCAN.out W (S11.keep h.2.2.2.2.2.2.2.2.2.2.2.2.2.2.2)).mono (fun e w' ⟨vb, h1, h2, h3⟩ => by
      obtain ⟨ao, c, rfl⟩ := h2.rd.open
      exact ⟨ao, c, _, h1, h2.rd, h.2.2.2.2.2.2.2.2.2.2.2.2.2.2.2.trans (h3.mono h.2.2.2.2.2.2.2.2.2.2.2.2.2.2.2.size), h3⟩))
    have KSAME : Hid (∀ W v u qs, RdP W v qs → RdP W u qs → Below w11.heap.size w11 W → Calls Try.prog 16 #[v, u] W fun e w' => e = .returned (.bool true) ∧ Below w11.heap.size w11 w') := Lib.hid (fun W v u qs h1 h2 h => (rsame_true v u qs W h1 h2).mono (fun e w' ⟨h3, h4⟩ => ⟨h3, h.trans ((drew_below h4 W.heap.size).mono h.size)⟩))
    clear S11 RA11 CGET CRGET CNEXT CRNEXT CPREV CRPREV CMAX CRMAX CMIN CALL CRALL CSCAN CRSCAN CLEN
    go_wp2
    dsimp only [List.append_eq, List.cons_append, List.nil_append]
    go_region_held_law (fun w' => w'.cell? ⟨w3.heap.size, 0, none⟩ = some (.string qnx.1) ∧ w'.cell? ⟨w3.heap.size, 1, none⟩ = some (.int .u64 qnx.2) ∧ w'.cell? ⟨w4.heap.size, 0, none⟩ = some (.string qnx.1) ∧ w'.cell? ⟨w4.heap.size, 1, none⟩ = some (.int .u64 qnx.2) ∧ w'.cell? ⟨w5.heap.size, 0, none⟩ = some (.string qpv.1) ∧ w'.cell? ⟨w5.heap.size, 1, none⟩ = some (.int .u64 qpv.2) ∧ w'.cell? ⟨w6.heap.size, 0, none⟩ = some (.string qpv.1) ∧ w'.cell? ⟨w6.heap.size, 1, none⟩ = some (.int .u64 qpv.2) ∧ w'.cell? ⟨w7.heap.size, 0, none⟩ = some (.string qmx.1) ∧ w'.cell? ⟨w7.heap.size, 1, none⟩ = some (.int .u64 qmx.2) ∧ w'.cell? ⟨w8.heap.size, 0, none⟩ = some (.string qmx.1) ∧ w'.cell? ⟨w8.heap.size, 1, none⟩ = some (.int .u64 qmx.2) ∧ w'.cell? ⟨w.heap.size, 1, none⟩ = some (.string key) ∧ w'.cell? ⟨w.heap.size, 3, none⟩ = some (.string high) ∧ w'.cell? ⟨w.heap.size, 4, none⟩ = some (.int .i64 limit) ∧ Below w11.heap.size w11 w') (first | exact hS0 | exact HC.out _ hA13 | exact HC.out _ hA14 | exact HC.out _ hA15 | exact HC.out _ hA16 | exact HC.out _ hA17 | assumption)
      (first
        | (go_at_call 22; (with_reducible refine (KLEN.out _ (by assumption)).mono ?_); rintro e w12 ⟨rfl, rfl⟩)
        | (go_at_call 17; (with_reducible refine (KALL.out _ (by assumption)).mono ?_); rintro e w13 ⟨ao13, c13, m13, rfl, hR13, hR13a, hA13⟩; have HR13 := Lib.hid hR13; have HR13a := Lib.hid hR13a; clear hR13 hR13a)
        | (go_at_call 16; (with_reducible refine (KSAME.out _ _ _ _ HR13.out HR13a.out hA13).mono ?_); rintro e w14 ⟨rfl, hA14⟩)
        | (go_at_call 23; (with_reducible refine (KSC.out _ (by assumption)).mono ?_); rintro e w15 ⟨ao15, c15, m15, rfl, hR15, hA15⟩; have HR15 := Lib.hid hR15; clear hR15)
        | (go_at_call 33; (with_reducible refine (KRSC.out _ (by assumption)).mono ?_); rintro e w16 ⟨ao16, c16, m16, rfl, hR16, hA16, hB16⟩; have HR16 := Lib.hid hR16; have HB16 := Lib.hid hB16; clear hR16 hB16)
        | (go_at_call 16; (with_reducible refine (KSAME.out _ _ _ _ (HR15.out.keep HB16.out) HR16.out hA16).mono ?_); rintro e w17 ⟨rfl, hA17⟩))
    go_wp2
    go_ret
    exact ⟨rfl, B11.out.trans (hA17.mono B11.out.size)⟩
end Go.Proofs.Ytpdcmgillinooaa
