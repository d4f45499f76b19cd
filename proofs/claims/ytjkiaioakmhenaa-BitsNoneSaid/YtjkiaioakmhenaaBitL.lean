/- bits: the laws' walks as the frames ask them. -/
import Derived.Test.YtjkiaioakmhenaaBitB
namespace Go.Proofs.Ytjkiaioakmhenaa
open Go.RowKit Go.Lib
theorem bitsNone_w {w : World} (v : Int) (h0 : (Lit.int .i64 v).wf = true) (n : Int) (h1 : (Lit.int .i64 n).wf = true) (l : List UInt8) (hl : l.length ≤ 140737488351232) :
    Calls Try.prog 6 #[.int .i64 v, .int .i64 n, .string (str l)] w fun e w' => e = .returned (.bool true) ∧ Below w.heap.size w w' := bitsNone_walk v n h0 h1 (str l) hl w
theorem bitsNone_s {w : World} (v : Int) (h0 : (Lit.int .i64 v).wf = true) (n : Int) (h1 : (Lit.int .i64 n).wf = true) (s : ByteArray) (_hm : s.size ≤ maxLen) (hs : s.size ≤ 140737488351232) :
    Calls Try.prog 6 #[.int .i64 v, .int .i64 n, .string s] w fun e w' => e = .returned (.bool true) ∧ Below w.heap.size w w' := bitsNone_walk v n h0 h1 s hs w
end Go.Proofs.Ytjkiaioakmhenaa
