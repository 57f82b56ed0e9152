/-
  How many bytes a message has at least: the document's. No statement is proved here. No condition.
-/
import Derived.Test.YtblbcoknefgcaaaMRefW
namespace Go.Proofs.Ytblbcoknefgcaaa
open Go.RowKit

def szP (l : List PP) : Nat := (l.map fun c => c.key.size + c.val.size).sum
def szX (l : List PL) : Nat := (l.map fun c => c.res.val.size).sum
def szE (l : List EN) : Nat := (l.map fun e => e.data.size + e.list.length).sum
def MG.sz0 (m : MG) : Nat := m.op.key.size + m.op.val.size + m.op.old.size + m.res.val.size + m.state.size + m.list.length + m.pairs.length + m.lasts.length + m.entries.length
def MG.sz (m : MG) : Nat := m.sz0 + szP m.pairs + szX m.lasts + szE m.entries
/-- no text is longer than memory -/
structure MG.texts (m : MG) : Prop where
  own : m.op.key.size ≤ 2 ^ 50 ∧ m.op.val.size ≤ 2 ^ 50 ∧ m.op.old.size ≤ 2 ^ 50 ∧ m.res.val.size ≤ 2 ^ 50 ∧ m.state.size ≤ 2 ^ 50
  p : ∀ c ∈ m.pairs, c.key.size ≤ 2 ^ 50 ∧ c.val.size ≤ 2 ^ 50
  x : ∀ c ∈ m.lasts, c.res.val.size ≤ 2 ^ 50
  e : ∀ c ∈ m.entries, c.data.size ≤ 2 ^ 50
theorem sum_take {α : Type} (f : α → Nat) {l : List α} {i : Nat} {x : α} (h : l[i]? = some x) : ((l.take (i + 1)).map f).sum = ((l.take i).map f).sum + f x := by
  have : l.take (i + 1) = l.take i ++ [x] := by rw [List.take_add_one, h]; rfl
  rw [this]
  simp
theorem sum_take_le {α : Type} (f : α → Nat) (l : List α) (i : Nat) : ((l.take i).map f).sum ≤ (l.map f).sum := by
  conv => rhs; rw [← List.take_append_drop i l, List.map_append, List.sum_append]
  omega
theorem wrapS {z : Int} (h : 0 ≤ z ∧ z ≤ 1152921504606846976) : wrap64 z = z := by unfold wrap64; omega
theorem wrapI {z : Int} (h : 0 ≤ z ∧ z ≤ 1152921504606846976) : IntKind.i64.wrap z = z := by simp [IntKind.wrap, IntKind.bits, IntKind.signed]; omega
/-- reckoned, or stopped behind ten thousand -/
def Rk (n t : Nat) : Prop := n = t ∨ (10000 ≤ n ∧ n ≤ t)
set_option maxHeartbeats 4000000 in
set_option maxRecDepth 100000 in
theorem size_any (m : MG) (vE vL vP vX : Value) (w : World) (h : MsgL w Any m vE vL vP vX) (hs : MsgS m) (ht : m.texts) :
    Calls Try.prog 42 #[.agg (m.cells vE vL vP vX)] w fun e w' => ∃ n : Nat, e = .returned (.int .i64 (n : Int)) ∧ Rk n m.sz ∧ Below w.heap.size w w' := by
  obtain ⟨AE, cE, rfl, -, -⟩ := h.e.slice
  obtain ⟨AL, cL, rfl, -, -⟩ := h.l.slice
  obtain ⟨AP, cP, rfl, -, -⟩ := h.p.slice
  obtain ⟨AX, cX, rfl, -, -⟩ := h.x.slice
  obtain ⟨cs, hcs⟩ : ∃ cs, cs = m.cells (.slice AE m.entries.length cE) (.slice AL m.list.length cL) (.slice AP m.pairs.length cP) (.slice AX m.lasts.length cX) := ⟨_, rfl⟩
  obtain ⟨x, hx⟩ : ∃ x, x = w.alloc (.cells cs 38) := ⟨_, rfl⟩
  have hbx : Below w.heap.size w x := by rw [hx]; exact (Below.refl _ _).alloc (Nat.le_refl _) _
  obtain ⟨b, hb⟩ : ∃ b, b = w.heap.size := ⟨_, rfl⟩
  have hbk : x.heap[b]? = some (.cells cs 38 (0, 0)) := by rw [hx, hb]; exact heap_alloc_new w _
  have hc : ∀ (j : Nat) (v : Value), cs[j]? = some v → x.cell? ⟨b, j, none⟩ = some v := fun j v hj => by rw [(blk_cells hbk).1 j]; exact hj
  rw [← hcs]
  have y8 := hc 8 (.string m.op.key) (by rw [hcs]; rfl)
  have y9 := hc 9 (.string m.op.val) (by rw [hcs]; rfl)
  have y10 := hc 10 (.string m.op.old) (by rw [hcs]; rfl)
  have y15 := hc 15 (.string m.res.val) (by rw [hcs]; rfl)
  have y22 := hc 22 (.slice AE m.entries.length cE) (by rw [hcs]; rfl)
  have y23 := hc 23 (.slice AL m.list.length cL) (by rw [hcs]; rfl)
  have y24 := hc 24 (.string m.state) (by rw [hcs]; rfl)
  have y27 := hc 27 (.slice AP m.pairs.length cP) (by rw [hcs]; rfl)
  have y28 := hc 28 (.slice AX m.lasts.length cX) (by rw [hcs]; rfl)
  have HC : Hid (∀ W, Below x.heap.size x W → W.cell? ⟨b, 22, none⟩ = some (.slice AE m.entries.length cE) ∧ W.cell? ⟨b, 27, none⟩ = some (.slice AP m.pairs.length cP) ∧ W.cell? ⟨b, 28, none⟩ = some (.slice AX m.lasts.length cX) ∧ MsgL W Any m (.slice AE m.entries.length cE) (.slice AL m.list.length cL) (.slice AP m.pairs.length cP) (.slice AX m.lasts.length cX) ∧ Below w.heap.size w W) := Lib.hid fun W hW => by
    have hlt := lt_of_heap hbk
    exact ⟨(hW.cell (p := ⟨b, 22, none⟩) hlt).trans y22, (hW.cell (p := ⟨b, 27, none⟩) hlt).trans y27, (hW.cell (p := ⟨b, 28, none⟩) hlt).trans y28, (h.grow hbx).grow hW, hbx.trans (Joins.below_le hW hbx.size)⟩
  have HX := Lib.hid (And.intro hx hb)
  have HT := Lib.hid (And.intro ht hs)
  clear h hbx hx hb hbk hc hcs ht hs
  go_enter Try.func42, Try.ntmps42
  go_upto_region 1 with fail
  rw [← HX.out.1, ← HX.out.2]
  clear HX
  obtain ⟨a1, a2, a3, a4, a5⟩ := HT.out.1.own
  obtain ⟨b1, -, b2, b3, b4⟩ := HT.out.2
  go_wp2_with fail
  obtain ⟨n0, hn0⟩ : ∃ n0 : Nat, n0 = m.sz0 := ⟨_, rfl⟩
  have hcast : (m.op.key.size : Int) + m.op.val.size + m.op.old.size + m.res.val.size + m.state.size + m.list.length + m.pairs.length + m.lasts.length + m.entries.length = (n0 : Int) := by rw [hn0]; unfold MG.sz0; omega
  rw [hcast]
  have hn0b : n0 ≤ 2 ^ 54 := by rw [hn0]; unfold MG.sz0; omega
  have HZ := Lib.hid hn0
  have HB0 := Lib.hid (Below.refl x.heap.size x)
  clear hcast hn0 a1 a2 a3 a4 a5 y8 y9 y10 y15 y22 y23 y24 y27 y28
  go_loopw [3, 4] (fun s3 si wr => ∃ i n : Nat, si = .int .i64 (i : Int) ∧ s3 = .int .i64 (n : Int) ∧ i ≤ m.pairs.length ∧ n ≤ 2 ^ 54 ∧ Hid (Rk n (n0 + szP (m.pairs.take i)) ∧ Below x.heap.size x wr)) (fun _ si _ => m.pairs.length - (RowKit.intOf si).toNat)
  case atStart => exact ⟨0, n0, rfl, rfl, Nat.zero_le _, hn0b, Lib.hid ⟨.inl rfl, HB0.out⟩⟩
  case round =>
    obtain ⟨i, n, rfl, rfl, hi, hnb, hR⟩ := hrel
    obtain ⟨wz, hwz⟩ : ∃ wz : World, wz = wr := ⟨_, rfl⟩
    subst hwz
    obtain ⟨y22, y27, y28, -, -⟩ := HC.out wz hR.out.2
    obtain ⟨cnd, hcnd⟩ : ∃ cnd, cnd = (decide (i < m.pairs.length) && decide (n < 10000)) := ⟨_, rfl⟩
    have HCND := Lib.hid hcnd
    clear hcnd
    go_upto_region 3 with fail
    go_cut [54] (fun sT wx => sT = .bool cnd ∧ wx = wz)
    case first =>
      by_cases h1 : i < m.pairs.length
      · have a1 : (i : Int) < (m.pairs.length : Int) := by omega
        by_cases h2 : n < 10000
        · have a2 : (n : Int) < 10000 := by omega
          go_wp2_with fail
          go_meet
          exact ⟨by rw [HCND.out]; simp [h1, h2], rfl⟩
        · have a2 : ¬ (n : Int) < 10000 := by omega
          go_wp2_with fail
          go_meet
          exact ⟨by rw [HCND.out]; simp [h1, h2], rfl⟩
      · have a1 : ¬ (i : Int) < (m.pairs.length : Int) := by omega
        go_wp2_with fail
        go_meet
        exact ⟨by rw [HCND.out]; simp [h1], rfl⟩
    obtain ⟨rfl, hwc⟩ := hcut
    obtain ⟨wy, hwy⟩ : ∃ wy : World, wy = wc := ⟨_, rfl⟩
    rw [← hwy] at hwc ⊢
    subst hwc
    clear hwy
    cases cnd
    case true =>
      obtain ⟨h1, h2⟩ : i < m.pairs.length ∧ n < 10000 := by have := HCND.out; simp at this; exact this
      have a1 : (i : Int) < (m.pairs.length : Int) := by omega
      have a0 : (0 : Int) ≤ (i : Int) := by omega
      obtain ⟨c, hcx⟩ : ∃ c, m.pairs[i]? = some c := ⟨_, List.getElem?_eq_getElem h1⟩
      obtain ⟨g, o, n1, k1, hv, -, -, hc1⟩ := (HC.out wy hR.out.2).2.2.2.1.p.cell hcx
      injection hv with v1
      subst v1
      have z0 : wy.cell? ⟨g, o + i * 2, none⟩ = some (.string c.key) := hc1 0 _ rfl
      have z1 : wy.cell? ⟨g, o + i * 2 + 1, none⟩ = some (.string c.val) := hc1 1 _ rfl
      clear hc1
      have HS : Hid (Rk (n + (c.key.size + c.val.size)) (n0 + szP (m.pairs.take (i + 1)))) := Lib.hid (by
        have h3 : szP (m.pairs.take (i + 1)) = szP (m.pairs.take i) + (c.key.size + c.val.size) := sum_take _ hcx
        rcases hR.out.1 with h4 | h4
        · left; omega
        · omega)
      have hsz := HT.out.1.p c (List.mem_of_getElem? hcx)
      have HWB := Lib.hid hR.out.2
      have HI := Lib.hid (And.intro h1 (And.intro h2 hsz))
      obtain ⟨u1, u2, u3, u4⟩ : wrap64 ((n : Int) + (c.key.size : Nat)) = (n : Int) + (c.key.size : Nat) ∧ IntKind.i64.wrap ((n : Int) + (c.key.size : Nat)) = (n : Int) + (c.key.size : Nat) ∧ wrap64 ((n : Int) + (c.key.size : Nat) + (c.val.size : Nat)) = (n : Int) + (c.key.size : Nat) + (c.val.size : Nat) ∧ IntKind.i64.wrap ((n : Int) + (c.key.size : Nat) + (c.val.size : Nat)) = (n : Int) + (c.key.size : Nat) + (c.val.size : Nat) := ⟨wrapS (by omega), wrapI (by omega), wrapS (by omega), wrapI (by omega)⟩
      clear hcx hR hsz hnb h2
      go_upto_region 5 with fail
      go_quiet (fail)
      clear u1 u2 u3 u4
      have hIo := HI.out
      have HF : Hid (Rk (n + (c.key.size + c.val.size)) (n0 + szP (m.pairs.take (i + 1))) ∧ Below x.heap.size x (wy.drewN nq)) := Lib.hid ⟨HS.out, HWB.out.trans ⟨rfl, rfl, rfl, Nat.le_refl _, fun _ _ => rfl⟩⟩
      go_wp2_with fail
      exact ⟨⟨i + 1, n + (c.key.size + c.val.size), by go_num, by go_num, hIo.1, by omega, HF⟩, by simp [RowKit.intOf]; omega⟩
    case false =>
      have HB2 := Lib.hid hR.out.2
      have HR2 : Hid (Rk n (n0 + szP m.pairs)) := Lib.hid (by
        have h3 := sum_take_le (fun c => c.key.size + c.val.size) m.pairs i
        rcases hR.out.1 with h4 | h4
        · by_cases h1 : i < m.pairs.length
          · have h2 : ¬ n < 10000 := by have := HCND.out; simp [h1] at this; omega
            right
            unfold szP at *
            omega
          · left
            rw [List.take_of_length_le (by omega)] at h4
            exact h4
        · right
          unfold szP at *
          omega)
      clear hR HCND hi
      go_wp2_with fail
      go_loopw [3, 5] (fun s3 si wr => ∃ i n : Nat, si = .int .i64 (i : Int) ∧ s3 = .int .i64 (n : Int) ∧ i ≤ m.lasts.length ∧ n ≤ 2 ^ 54 ∧ Hid (Rk n (n0 + szP m.pairs + szX (m.lasts.take i)) ∧ Below x.heap.size x wr)) (fun _ si _ => m.lasts.length - (RowKit.intOf si).toNat)
      case atStart => exact ⟨0, n, rfl, rfl, Nat.zero_le _, hnb, Lib.hid ⟨HR2.out, HB2.out⟩⟩
      case round =>
        obtain ⟨i, n, rfl, rfl, hi, hnb, hR⟩ := hrel
        obtain ⟨wz, hwz⟩ : ∃ wz : World, wz = wr := ⟨_, rfl⟩
        subst hwz
        obtain ⟨y22, y27, y28, -, -⟩ := HC.out wz hR.out.2
        obtain ⟨cnd, hcnd⟩ : ∃ cnd, cnd = (decide (i < m.lasts.length) && decide (n < 10000)) := ⟨_, rfl⟩
        have HCND := Lib.hid hcnd
        clear hcnd
        go_upto_region 7 with fail
        go_cut [82] (fun sT wx => sT = .bool cnd ∧ wx = wz)
        case first =>
          by_cases h1 : i < m.lasts.length
          · have a1 : (i : Int) < (m.lasts.length : Int) := by omega
            by_cases h2 : n < 10000
            · have a2 : (n : Int) < 10000 := by omega
              go_wp2_with fail
              go_meet
              exact ⟨by rw [HCND.out]; simp [h1, h2], rfl⟩
            · have a2 : ¬ (n : Int) < 10000 := by omega
              go_wp2_with fail
              go_meet
              exact ⟨by rw [HCND.out]; simp [h1, h2], rfl⟩
          · have a1 : ¬ (i : Int) < (m.lasts.length : Int) := by omega
            go_wp2_with fail
            go_meet
            exact ⟨by rw [HCND.out]; simp [h1], rfl⟩
        obtain ⟨rfl, hwc⟩ := hcut
        obtain ⟨wy, hwy⟩ : ∃ wy : World, wy = wc := ⟨_, rfl⟩
        rw [← hwy] at hwc ⊢
        subst hwc
        clear hwy
        cases cnd
        case true =>
          obtain ⟨h1, h2⟩ : i < m.lasts.length ∧ n < 10000 := by have := HCND.out; simp at this; exact this
          have a1 : (i : Int) < (m.lasts.length : Int) := by omega
          have a0 : (0 : Int) ≤ (i : Int) := by omega
          obtain ⟨c, hcx⟩ : ∃ c, m.lasts[i]? = some c := ⟨_, List.getElem?_eq_getElem h1⟩
          obtain ⟨g, o, n1, k1, hv, -, -, hc1⟩ := (HC.out wy hR.out.2).2.2.2.1.x.cell hcx
          injection hv with v1
          subst v1
          have z0 : wy.cell? ⟨g, o + i * 5 + 4, none⟩ = some (.string c.res.val) := hc1 4 _ rfl
          clear hc1
          have HS : Hid (Rk (n + (c.res.val.size)) ((n0 + szP m.pairs) + szX (m.lasts.take (i + 1)))) := Lib.hid (by
            have h3 : szX (m.lasts.take (i + 1)) = szX (m.lasts.take i) + (c.res.val.size) := sum_take _ hcx
            rcases hR.out.1 with h4 | h4
            · left; omega
            · omega)
          have hsz := HT.out.1.x c (List.mem_of_getElem? hcx)
          have HWB := Lib.hid hR.out.2
          have HI := Lib.hid (And.intro h1 (And.intro h2 hsz))
          obtain ⟨u1, u2⟩ : wrap64 ((n : Int) + (c.res.val.size : Nat)) = (n : Int) + (c.res.val.size : Nat) ∧ IntKind.i64.wrap ((n : Int) + (c.res.val.size : Nat)) = (n : Int) + (c.res.val.size : Nat) := ⟨wrapS (by omega), wrapI (by omega)⟩
          clear hcx hR hsz hnb h2
          have hIo := HI.out
          have HF : Hid (Rk (n + (c.res.val.size)) ((n0 + szP m.pairs) + szX (m.lasts.take (i + 1))) ∧ Below x.heap.size x wy) := Lib.hid ⟨HS.out, HWB.out⟩
          go_wp2_with fail
          exact ⟨⟨i + 1, n + (c.res.val.size), by go_num, by go_num, hIo.1, by omega, HF⟩, by simp [RowKit.intOf]; omega⟩
        case false =>
          have HB2 := Lib.hid hR.out.2
          have HR2 : Hid (Rk n (n0 + szP m.pairs + szX m.lasts)) := Lib.hid (by
            have h3 := sum_take_le (fun c => c.res.val.size) m.lasts i
            rcases hR.out.1 with h4 | h4
            · by_cases h1 : i < m.lasts.length
              · have h2 : ¬ n < 10000 := by have := HCND.out; simp [h1] at this; omega
                right
                unfold szX at *
                omega
              · left
                rw [List.take_of_length_le (by omega)] at h4
                exact h4
            · right
              unfold szX at *
              omega)
          clear hR HCND hi
          go_wp2_with fail
          go_loopw [3, 6] (fun s3 si wr => ∃ i n : Nat, si = .int .i64 (i : Int) ∧ s3 = .int .i64 (n : Int) ∧ i ≤ m.entries.length ∧ n ≤ 2 ^ 54 ∧ Hid (Rk n (n0 + szP m.pairs + szX m.lasts + szE (m.entries.take i)) ∧ Below x.heap.size x wr)) (fun _ si _ => m.entries.length - (RowKit.intOf si).toNat)
          case atStart => exact ⟨0, n, rfl, rfl, Nat.zero_le _, hnb, Lib.hid ⟨HR2.out, HB2.out⟩⟩
          case round =>
            obtain ⟨i, n, rfl, rfl, hi, hnb, hR⟩ := hrel
            obtain ⟨wz, hwz⟩ : ∃ wz : World, wz = wr := ⟨_, rfl⟩
            subst hwz
            obtain ⟨y22, y27, y28, -, -⟩ := HC.out wz hR.out.2
            obtain ⟨cnd, hcnd⟩ : ∃ cnd, cnd = (decide (i < m.entries.length) && decide (n < 10000)) := ⟨_, rfl⟩
            have HCND := Lib.hid hcnd
            clear hcnd
            go_upto_region 11 with fail
            go_cut [103] (fun sT wx => sT = .bool cnd ∧ wx = wz)
            case first =>
              by_cases h1 : i < m.entries.length
              · have a1 : (i : Int) < (m.entries.length : Int) := by omega
                by_cases h2 : n < 10000
                · have a2 : (n : Int) < 10000 := by omega
                  go_wp2_with fail
                  go_meet
                  exact ⟨by rw [HCND.out]; simp [h1, h2], rfl⟩
                · have a2 : ¬ (n : Int) < 10000 := by omega
                  go_wp2_with fail
                  go_meet
                  exact ⟨by rw [HCND.out]; simp [h1, h2], rfl⟩
              · have a1 : ¬ (i : Int) < (m.entries.length : Int) := by omega
                go_wp2_with fail
                go_meet
                exact ⟨by rw [HCND.out]; simp [h1], rfl⟩
            obtain ⟨rfl, hwc⟩ := hcut
            obtain ⟨wy, hwy⟩ : ∃ wy : World, wy = wc := ⟨_, rfl⟩
            rw [← hwy] at hwc ⊢
            subst hwc
            clear hwy
            cases cnd
            case true =>
              obtain ⟨h1, h2⟩ : i < m.entries.length ∧ n < 10000 := by have := HCND.out; simp at this; exact this
              have a1 : (i : Int) < (m.entries.length : Int) := by omega
              have a0 : (0 : Int) ≤ (i : Int) := by omega
              obtain ⟨c, hcx⟩ : ∃ c, m.entries[i]? = some c := ⟨_, List.getElem?_eq_getElem h1⟩
              obtain ⟨g, o, n1, k1, C, l2, hv, -, -, -, -, -, z2, z3⟩ := (HC.out wy hR.out.2).2.2.2.1.e.cell hcx
              injection hv with v1
              subst v1
              have hl2 := HT.out.2.es c (List.mem_of_getElem? hcx)
              have HS : Hid (Rk (n + (c.data.size + c.list.length)) ((n0 + szP m.pairs + szX m.lasts) + szE (m.entries.take (i + 1)))) := Lib.hid (by
                have h3 : szE (m.entries.take (i + 1)) = szE (m.entries.take i) + (c.data.size + c.list.length) := sum_take _ hcx
                rcases hR.out.1 with h4 | h4
                · left; omega
                · omega)
              have hsz := HT.out.1.e c (List.mem_of_getElem? hcx)
              have HWB := Lib.hid hR.out.2
              have HI := Lib.hid (And.intro h1 (And.intro h2 hsz))
              obtain ⟨u1, u2, u3, u4⟩ : wrap64 ((n : Int) + (c.data.size : Nat)) = (n : Int) + (c.data.size : Nat) ∧ IntKind.i64.wrap ((n : Int) + (c.data.size : Nat)) = (n : Int) + (c.data.size : Nat) ∧ wrap64 ((n : Int) + (c.data.size : Nat) + (c.list.length : Nat)) = (n : Int) + (c.data.size : Nat) + (c.list.length : Nat) ∧ IntKind.i64.wrap ((n : Int) + (c.data.size : Nat) + (c.list.length : Nat)) = (n : Int) + (c.data.size : Nat) + (c.list.length : Nat) := ⟨wrapS (by omega), wrapI (by omega), wrapS (by omega), wrapI (by omega)⟩
              clear hcx hR hsz hnb h2
              go_upto_region 13 with fail
              go_quiet (fail)
              clear u1 u2 u3 u4
              have hIo := HI.out
              have HF : Hid (Rk (n + (c.data.size + c.list.length)) ((n0 + szP m.pairs + szX m.lasts) + szE (m.entries.take (i + 1))) ∧ Below x.heap.size x (wy.drewN nq)) := Lib.hid ⟨HS.out, HWB.out.trans ⟨rfl, rfl, rfl, Nat.le_refl _, fun _ _ => rfl⟩⟩
              go_wp2_with fail
              exact ⟨⟨i + 1, n + (c.data.size + c.list.length), by go_num, by go_num, hIo.1, by omega, HF⟩, by simp [RowKit.intOf]; omega⟩
            case false =>
              have HB2 := Lib.hid hR.out.2
              have HR2 : Hid (Rk n (n0 + szP m.pairs + szX m.lasts + szE m.entries)) := Lib.hid (by
                have h3 := sum_take_le (fun c => c.data.size + c.list.length) m.entries i
                rcases hR.out.1 with h4 | h4
                · by_cases h1 : i < m.entries.length
                  · have h2 : ¬ n < 10000 := by have := HCND.out; simp [h1] at this; omega
                    right
                    unfold szE at *
                    omega
                  · left
                    rw [List.take_of_length_le (by omega)] at h4
                    exact h4
                · right
                  unfold szE at *
                  omega)
              clear hR HCND hi
              go_wp2_with fail
              go_ret
              exact ⟨n, rfl, by have := HR2.out; rw [HZ.out] at this; exact this, (HC.out _ HB2.out).2.2.2.2⟩

end Go.Proofs.Ytblbcoknefgcaaa
