/-
  MsgSame walked. No statement is proved here. No condition.
-/
import Derived.Test.YtblbcoknefgcaaaMRSame
import Derived.Test.YtblbcoknefgcaaaMTwin
import Derived.Test.YtblbcoknefgcaaaMRTwin
import Derived.Test.YtblbcoknefgcaaaMSpoil
namespace Go.Proofs.Ytblbcoknefgcaaa
open Go.RowKit

theorem beq_c {α : Type} [BEq α] [LawfulBEq α] (x y : α) : (x == y) = (y == x) := BEq.comm
theorem sameL_refl {α : Type} {f : α → α → Bool} (hf : ∀ x, f x x = true) : ∀ l, sameL f l l = true
  | [] => rfl
  | a :: l => by unfold sameL; rw [hf, sameL_refl hf l]; rfl
theorem sameL_comm {α : Type} {f : α → α → Bool} (hf : ∀ x y, f x y = f y x) : ∀ l m, sameL f l m = sameL f m l
  | [], [] => rfl
  | a :: l, b :: m => by unfold sameL; rw [hf, sameL_comm hf l m]
  | [], b :: m => rfl
  | a :: l, [] => rfl
theorem iSame_comm (x y : Int) : iSame x y = iSame y x := beq_c x y
theorem PP.comm (a b : PP) : a.same b = b.same a := by unfold PP.same; rw [beq_c a.key.toList, beq_c a.val.toList]
theorem PR.comm (a b : PR) : a.same b = b.same a := by unfold PR.same; rw [beq_c a.kind, beq_c a.found, beq_c a.val.toList]
theorem PL.comm (a b : PL) : a.same b = b.same a := by unfold PL.same; rw [beq_c a.client, beq_c a.id, PR.comm a.res]
theorem PO.comm (a b : PO) : a.same b = b.same a := by unfold PO.same; rw [beq_c a.kind, beq_c a.key.toList, beq_c a.val.toList, beq_c a.old.toList, beq_c a.had]
theorem CM.comm (a b : CM) : a.same b = b.same a := by unfold CM.same; rw [beq_c a.kind, beq_c a.shard, beq_c a.store, beq_c a.epoch]
theorem EN.comm (a b : EN) : a.same b = b.same a := by unfold EN.same; rw [beq_c a.term, beq_c a.kind, beq_c a.data.toList, sameL_comm iSame_comm a.list]
theorem MG.comm (a b : MG) : a.same b = b.same a := by
  unfold MG.same
  rw [beq_c a.kind, beq_c a.shard, beq_c a.epoch, beq_c a.owner, beq_c a.req, beq_c a.client, beq_c a.id, PO.comm a.op, beq_c a.code, PR.comm a.res, beq_c a.grant, beq_c a.term, beq_c a.index, beq_c a.prev, beq_c a.commit, beq_c a.granted, sameL_comm EN.comm a.entries, sameL_comm iSame_comm a.list, beq_c a.state.toList, beq_c a.part, beq_c a.last, sameL_comm PP.comm a.pairs, sameL_comm PL.comm a.lasts, CM.comm a.cmd]
theorem iSame_refl (x : Int) : iSame x x = true := by simp [iSame]
theorem PP.refl (a : PP) : a.same a = true := by simp [PP.same]
theorem PR.refl (a : PR) : a.same a = true := by simp [PR.same]
theorem PL.refl (a : PL) : a.same a = true := by simp [PL.same, PR.refl]
theorem PO.refl (a : PO) : a.same a = true := by simp [PO.same]
theorem CM.refl (a : CM) : a.same a = true := by simp [CM.same]
theorem EN.refl (a : EN) : a.same a = true := by simp [EN.same, sameL_refl iSame_refl]
theorem MG.refl (a : MG) : a.same a = true := by simp [MG.same, PO.refl, PR.refl, CM.refl, sameL_refl iSame_refl, sameL_refl EN.refl, sameL_refl PP.refl, sameL_refl PL.refl]
theorem ld_Msg (p : Nat) (cs : Array Value) (W : World) (h : W.heap[p]? = some (.cells cs 38 (0, 0))) (hs : cs.size = 33) : (Instr.loadAt 38 (.pointer (some ⟨p, 0, none⟩))).run Try.prog W = .ok (.agg cs) W := by
  have h1 := run_loadVar_row (P := Try.prog) W p 38 38 cs (0, 0) _ h Try.underlying38 rfl (by rw [hs]; exact msg_size)
  simp [Instr.loadAt, Instr.sureAddr, h1]
end Go.Proofs.Ytblbcoknefgcaaa
