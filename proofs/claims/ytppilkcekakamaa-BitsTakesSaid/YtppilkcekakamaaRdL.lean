/- bits: the law's walk as the frame asks it. -/
import Derived.Test.YtppilkcekakamaaRdE
namespace Go.Proofs.Ytppilkcekakamaa
open Go.RowKit Go.Lib
theorem bitsTakes_s {w : World} (s : ByteArray) (_hm : s.size ≤ maxLen) (hs : s.size ≤ 140737488351232) (A : Option Addr) (c : Nat) (ls : List (Int × Int)) (hl : ls.length ≤ 9223372036854775807) (hr : DeedsAt w A ls) :
    Calls Try.prog 8 #[.string s, .slice A ls.length c] w fun e w' => e = .returned (.bool true) ∧ Below w.heap.size w w' := by
  have h := bitsTakes_w (w := w) s.data.toList (by rw [Array.length_toList]; exact hs) A c ls hl hr
  rwa [str_eta] at h
end Go.Proofs.Ytppilkcekakamaa
