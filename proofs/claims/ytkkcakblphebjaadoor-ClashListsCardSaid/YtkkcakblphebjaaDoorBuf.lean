/- Buffers of bytes of the call's own, as the walks of several packages use them. No condition. -/
import Derived.Test.YtkkcakblphebjaaDoorKit
namespace Go.Proofs.YtkkcakblphebjaaDoor
set_option linter.unusedSimpArgs false
set_option linter.unusedVariables false
set_option linter.unusedVariables false
open Go.RowKit Go.Lib
theorem infoByte : (Tryd.prog.info? 5).map (fun i => (i.zero, i.size, i.bytes)) = some (some (.int .u8 0), 1, 1) := by kernel_rfl
theorem byteCells_snoc (l : List UInt8) (c : UInt8) : Lib.byteCells l ++ [.int .u8 (c.toNat : Int)] = Lib.byteCells (l ++ [c]) := by simp [Lib.byteCells]
theorem byteCells_append (l m : List UInt8) : Lib.byteCells (l ++ m) = Lib.byteCells l ++ Lib.byteCells m := by simp [Lib.byteCells]
theorem byteCells_str (l m : List UInt8) : Lib.byteCells l ++ Lib.strCells (str m) = Lib.byteCells (l ++ m) := by unfold str; simp [Lib.byteCells, Lib.strCells]
theorem own_start (w : World) : OwnBuf w.heap.size 5 (.slice none 0 0) 0 (Lib.byteCells []) w w := ⟨World.ownsRowF_nil _ _ _ _, Below.refl _ _, Nat.le_refl _⟩

/-- a buffer that holds these bytes -/
def Buf (w wr : World) (v : Value) (l : List UInt8) : Prop := OwnBuf w.heap.size 5 v l.length (Lib.byteCells l) w wr
theorem Buf.byte {w wr : World} {v : Value} {l : List UInt8} {c : Int} {d : UInt8} (h : OwnBuf w.heap.size 5 v (l.length + 1) (Lib.byteCells l ++ [.int .u8 c]) w wr) (hc : c = d.toNat) : Buf w wr v (l ++ [d]) := by
  subst hc
  rw [byteCells_snoc] at h
  unfold Buf; rw [List.length_append]; exact h
theorem Buf.text {w wr : World} {v : Value} {l m : List UInt8} (h : OwnBuf w.heap.size 5 v (l.length + (str m).size) (Lib.byteCells l ++ Lib.strCells (str m)) w wr) : Buf w wr v (l ++ m) := by
  rw [byteCells_str, str_size] at h
  unfold Buf; rw [List.length_append]; exact h
theorem Buf.below {w wr wx : World} {v : Value} {l : List UInt8} (h : Buf w wr v l) (hb : Below wr.heap.size wr wx) : Buf w wx v l := by
  obtain ⟨h1, h2, h3⟩ := h
  refine ⟨?_, h2.trans (hb.mono h3), Nat.le_trans h3 hb.size⟩
  exact h1.kept (row := none) ⟨hb.os, hb.tape, hb.output, hb.size, fun k hk _ => hb.block k hk⟩ (by cases v.ownBlock <;> simp)
theorem Buf.string {w wr : World} {v : Value} {l : List UInt8} (h : Buf w wr v l) : (convert 107 9 v).run Tryd.prog wr = .ok (.string (str l)) wr :=
  own_string _ _ _ Tryd.underlying107 Tryd.underlying5 Tryd.underlying9 rfl h

theorem buf_nil {w wr : World} (h : Below w.heap.size w wr) : Buf w wr (.slice none 0 0) [] := ⟨World.ownsRowF_nil _ _ _ _, h, h.size⟩
theorem append_four {ops : Array Oper} {rest : List Oper} {o : Oper} {a : Act} {Q : Exit → Act → World → Prop} (hgd : o.guard = none) (s x : Operand)
    (ho : o.op = .call { callee := .builtin .append, args := #[s, x], argTypes := #[107, 107] })
    {w wr : World} {l : List UInt8} {v : Value} (hs : a.eval s = v) (hb : Buf w wr v l) {c0 c1 c2 c3 : Int} {d0 d1 d2 d3 : UInt8}
    (hx : a.eval x = .slice (some ⟨wr.heap.size, 0, none⟩) 4 4) (h0 : c0 = d0.toNat) (h1 : c1 = d1.toNat) (h2 : c2 = d2.toNat) (h3 : c3 = d3.toNat) (hlen : l.length + 4 ≤ 1000000000)
    (h : ∀ v' w', Buf w w' v' (l ++ [d0, d1, d2, d3]) → wpList Tryd.prog ops Q rest (a.put o.dst v') w') : wpList Tryd.prog ops Q (o :: rest) a (wr.alloc (.cells #[.int .u8 c0, .int .u8 c1, .int .u8 c2, .int .u8 c3] 5)) := by
  subst h0 h1 h2 h3
  obtain ⟨i0, hi, hz0, hz1, hz2⟩ := info_parts infoByte
  have hb' := OwnBuf.alloc hb (.cells #[.int .u8 (d0.toNat : Int), .int .u8 (d1.toNat : Int), .int .u8 (d2.toNat : Int), .int .u8 (d3.toNat : Int)] 5)
  refine wpList_append_ownF _ hgd s x 107 ho w.heap.size 5 i0 (.int .u8 0) 1 1 Tryd.underlying107 hi hz0 hz1 hz2 rfl (by decide) v l.length (byteCells l) hs hb'.1 ⟨wr.heap.size, 0, none⟩ 4 4 (byteCells [d0, d1, d2, d3]) hx rfl ?_ ?_ (by unfold maxLen; omega) (by omega) hb'.2.2 ?_
  · intro j u hj
    match j, hj with
    | 0, hj => simp [byteCells] at hj; subst hj; simp [Addr.add]
    | 1, hj => simp [byteCells] at hj; subst hj; simp [Addr.add]
    | 2, hj => simp [byteCells] at hj; subst hj; simp [Addr.add]
    | 3, hj => simp [byteCells] at hj; subst hj; simp [Addr.add]
    | (j + 4), hj => simp [byteCells] at hj
  · intro u hu; simp [byteCells] at hu; rcases hu with rfl | rfl | rfl | rfl <;> rfl
  · intro v' w' ho' hg _
    refine h v' w' ?_
    have h2 := OwnBuf.grown hb' ho' hg
    unfold Buf
    rw [List.length_append, byteCells_append] at *
    exact h2
theorem Buf.drew {w wr : World} {v : Value} {l : List UInt8} (h : Buf w wr v l) : Buf w wr.drew v l := OwnBuf.drewN h 1
theorem Buf.is {w wr : World} {v : Value} {l m : List UInt8} (h : Buf w wr v l) (e : l = m) : Buf w wr v m := by rw [← e]; exact h
end Go.Proofs.YtkkcakblphebjaaDoor
