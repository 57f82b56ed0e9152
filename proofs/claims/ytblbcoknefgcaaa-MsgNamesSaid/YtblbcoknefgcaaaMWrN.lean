import Derived.Test.YtblbcoknefgcaaaMWrG
import Derived.Test.YtblbcoknefgcaaaMWrL
namespace Go.Proofs.Ytblbcoknefgcaaa
open Go.RowKit
def EN.ok (c : EN) : Prop := I64 c.term ∧ (0 ≤ c.kind ∧ c.kind ≤ 255) ∧ ∀ n ∈ c.list, I64 n
def EN.by (c : EN) : List (List UInt8) := [uv (zz c.term), cv c.kind, tv c.data.data.toList] ++ (cv c.list.length :: c.list.map fun n => uv (zz n))
def EN.vals (c : EN) (vl : Value) : List Value := [.int .i64 c.term, .int .u8 c.kind, .string c.data, vl]
set_option maxHeartbeats 4000000 in
set_option maxRecDepth 100000 in
/-- entry -/
theorem w_entry (B k b o : Nat) (s : WS) (c : EN) (A : Option Addr) (lc : Nat) (w : World) (h : WrP w B k s) (hc : CellsAt w B b o (c.vals (.slice A c.list.length lc))) (hn : c.ok) (hlen : c.list.length < 2 ^ 60) (hl : ∀ (i : Nat) (n : Int), c.list[i]? = some n → ∃ g q, A = some ⟨g, q, none⟩ ∧ w.cell? ⟨g, q + i, none⟩ = some (.int .i64 n) ∧ g < B) :
    Calls Try.prog 86 #[.iface 72 (.pointer (some ⟨k, 0, none⟩)), .pointer (some ⟨b, o, none⟩)] w fun e w' => e = .returned (.tuple #[]) ∧ WrP w' B k (wputs s c.by) ∧ Wrote B k w w' := by
  have HP0 := Lib.hid (h.below (w' := w.drew) (Below.refl _ _).drew)
  have HC0 := Lib.hid (hc.below (w' := w.drew) (Below.refl _ _).drew)
  have HW0 := Lib.hid (Wrote.of_below (B := B) (k := k) (w := w) (w' := w.drew) (Below.refl _ _).drew)
  have HN := Lib.hid hn
  have HK := Lib.hid h.kB
  have HL := Lib.hid hl
  clear h hc hn hl
  go_enter Try.func86, Try.ntmps86
  have hm := metw_num
  have hv := nilw_num
  have c0 := wr_num B k b o _ c.term HN.out.1 w.drew HP0.out (HC0.out.cell 0 _ rfl)
  go_wp2_with fail
  go_region_with (go_at_call 149; refine c0.mono ?_; rintro e w1 ⟨rfl, hp, hw⟩)
  have HP1 := Lib.hid (hp.below (w' := w1.drew) (Below.refl _ _).drew)
  have HW1 := Lib.hid ((HW0.out.trans hw).trans (Wrote.of_below (w' := w1.drew) (Below.refl _ _).drew))
  have HC1 := Lib.hid ((HC0.out.wrote hw HK.out).below (w' := w1.drew) (Below.refl _ _).drew)
  clear hp hw hm hv c0 HP0 HW0 HC0
  have hm := metw_kind
  have hv := nilw_kind
  have c1 := wr_kind B k b (o + 1) _ c.kind HN.out.2.1 w1.drew HP1.out (HC1.out.cell 1 _ rfl)
  go_wp2_with fail
  go_region_with (go_at_call 147; refine c1.mono ?_; rintro e w2 ⟨rfl, hp, hw⟩)
  have HP2 := Lib.hid (hp.below (w' := w2.drew) (Below.refl _ _).drew)
  have HW2 := Lib.hid ((HW1.out.trans hw).trans (Wrote.of_below (w' := w2.drew) (Below.refl _ _).drew))
  have HC2 := Lib.hid ((HC1.out.wrote hw HK.out).below (w' := w2.drew) (Below.refl _ _).drew)
  clear hp hw hm hv c1 HP1 HW1 HC1
  have hm := metw_text
  have hv := nilw_text
  have c2 := wr_text B k b (o + 2) _ c.data  w2.drew HP2.out (HC2.out.cell 2 _ rfl)
  go_wp2_with fail
  go_region_with (go_at_call 151; refine c2.mono ?_; rintro e w3 ⟨rfl, hp, hw⟩)
  have HP3 := Lib.hid (hp.below (w' := w3.drew) (Below.refl _ _).drew)
  have HW3 := Lib.hid ((HW2.out.trans hw).trans (Wrote.of_below (w' := w3.drew) (Below.refl _ _).drew))
  have HC3 := Lib.hid ((HC2.out.wrote hw HK.out).below (w' := w3.drew) (Below.refl _ _).drew)
  clear hp hw hm hv c2 HP2 HW2 HC2
  have c4 := w_list_int B k b (o + 3) lc A _ c.list w3.drew HP3.out HC3.out.lt HC3.out.lw (HC3.out.cell 3 _ rfl) hlen (fun i n hi => by
    obtain ⟨g, q, e, n1, n3⟩ := HL.out i n hi
    exact ⟨g, q, e, (HW3.out.cell (p := ⟨g, q + i, none⟩) (World.block_lt_of_cell? w _ n1) (by have := HK.out; dsimp only; omega) (.inl n3)).trans n1, HN.out.2.2 n (List.mem_of_getElem? hi), n3⟩)
  go_wp2_with fail
  go_region_with (go_at_call 87; refine c4.mono ?_; rintro e w4 ⟨rfl, hp, hw⟩)
  all_goals
    have HF := Lib.hid (And.intro hp (HW3.out.trans hw))
    clear hp hw c4
    go_wp2_with fail
    go_end0
    exact ⟨rfl, by rw [EN.by, wputs_app]; exact HF.out.1, HF.out.2⟩
end Go.Proofs.Ytblbcoknefgcaaa
