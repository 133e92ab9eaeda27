/-
  NARROWER THAN 'FOR EVERY INPUT', by the rows' own cells (each row's printed sentence says how): BlockRoundTrips: laid · BlockRandomAccess: laid · BlockRanges: laid.
  DERIVED. THE GIVEN ROWS OF THIS SEAT. 3 by the template 'for every input the law returns true; each argument reads behind the call as it read before'; 0 by the template 'total and deterministic' (their statements: YtillcmddbjhepaaDoorTotals.lean).
  GIVEN WITH THE SEED: the statements are not yours to turn. If you find one false, say at which input.
  Laid BY PROGRAM, IN A SANDBOX (cutbox-rows.mjs): the forced cells as the released guide's own fill.sh prints them over the translation 006e2ccadb94cafd… (all of the seat's roots in one cut). By AI agents, Wed Nov 11 2026. No macro, syntax, notation, axiom, sorry.
-/
import Derived.Test.YtillcmddbjhepaaDoorChecked
import GoSem.Claim
import GoSem.ClaimJoined
import GoSem.ClaimMapViews
import Derived.JoinedTies
import Derived.KernelRfl
namespace Go.Proofs.YtillcmddbjhepaaDoor
/- THE CELL 'sum', in the pinned program and in every row, IS THE sha256 OF THE DUMP (.gsa) THAT YtillcmddbjhepaaDoorProg.lean LOADS. Nothing in Lean hashes anything: it is a label: what it is worth is what the hold of that sum in a sandbox is worth. -/
noncomputable def Tryd.pinned : Pinned := { name := "ytillcmddbjhepaadoor", sum := "006e2ccadb94cafd977c60581c1ef471214edecee80c9fe2c0f65416ae5a55fd", checked := Tryd.checked }
namespace Rows
def none {H : Type} : Left H := { results := [], args := [] }

/- WHAT THE LISTED PACKAGE-LEVEL VARIABLES READ AS WHEN THE CALL BEGINS. Each datum BY PROGRAM (the guide's laid-datum.mjs) off the statement by which the dump's own 'gosem.cut.vars' lays the variable. In a bare row this is a premise. The card (YtillcmddbjhepaaDoorCards.lean) ties it to the program's text. -/
def laid_signalbench_check_named {H : Type} : DataW H := .agg [.agg [.lit (.string [99, 97, 110, 49, 53]), .agg [.lit (.int .i64 15), .lit (.int .i64 17817), .lit (.int .i64 0), .lit (.int .i64 0), .lit (.bool false)]], .agg [.lit (.string [99, 114, 99, 49, 54, 109, 111, 100, 98, 117, 115]), .agg [.lit (.int .i64 16), .lit (.int .i64 32773), .lit (.int .i64 65535), .lit (.int .i64 0), .lit (.bool true)]], .agg [.lit (.string [99, 114, 99, 51, 50]), .agg [.lit (.int .i64 32), .lit (.int .i64 79764919), .lit (.int .i64 4294967295), .lit (.int .i64 4294967295), .lit (.bool true)]], .agg [.lit (.string [99, 114, 99, 53, 117, 115, 98]), .agg [.lit (.int .i64 5), .lit (.int .i64 5), .lit (.int .i64 31), .lit (.int .i64 31), .lit (.bool true)]], .agg [.lit (.string [99, 114, 99, 56]), .agg [.lit (.int .i64 8), .lit (.int .i64 7), .lit (.int .i64 0), .lit (.int .i64 0), .lit (.bool false)]]]

/-- 'signalbenchlaw10.BlockRoundTrips': WHATEVER THE INPUT: true; the input reads as it did. -/
def blockRoundTripsSpec : ChangeSpec := { name := "blockRoundTrips", fn := fun _ => fun
  | [d1, d2] => { results := [.lit (.bool true)], args := [d1, d2] }
  | _ => none }
def blockRoundTripsRow : OpenClaim := { program := "ytillcmddbjhepaadoor", sum := "006e2ccadb94cafd977c60581c1ef471214edecee80c9fe2c0f65416ae5a55fd", func := "signalbench/signalbenchlaw10.BlockRoundTrips", spec := "blockRoundTrips", unfollowed := true, recurses := true, named := ["signalbench/check.named"], apart := false, laid := [("signalbench/check.named", laid_signalbench_check_named)] }
def BlockRoundTripsSaid : Prop := blockRoundTripsRow.holds Tryd.pinned (OpenSpec.ofChange blockRoundTripsSpec)

/-- ITS FALSE NEIGHBOUR: 'it returns false'. Refute it at one input. -/
def blockRoundTripsWrong : ChangeSpec := { name := "blockRoundTrips", fn := fun _ => fun
  | [d1, d2] => { results := [.lit (.bool false)], args := [d1, d2] }
  | _ => none }
def BlockRoundTripsWrongFalsely : Prop := blockRoundTripsRow.holds Tryd.pinned (OpenSpec.ofChange blockRoundTripsWrong)

/-- 'signalbenchlaw10.BlockRandomAccess': WHATEVER THE INPUT: true; the input reads as it did. -/
def blockRandomAccessSpec : ChangeSpec := { name := "blockRandomAccess", fn := fun _ => fun
  | [d1, d2] => { results := [.lit (.bool true)], args := [d1, d2] }
  | _ => none }
def blockRandomAccessRow : OpenClaim := { program := "ytillcmddbjhepaadoor", sum := "006e2ccadb94cafd977c60581c1ef471214edecee80c9fe2c0f65416ae5a55fd", func := "signalbench/signalbenchlaw10.BlockRandomAccess", spec := "blockRandomAccess", unfollowed := true, recurses := true, named := ["signalbench/check.named"], apart := false, laid := [("signalbench/check.named", laid_signalbench_check_named)] }
def BlockRandomAccessSaid : Prop := blockRandomAccessRow.holds Tryd.pinned (OpenSpec.ofChange blockRandomAccessSpec)

/-- ITS FALSE NEIGHBOUR: 'it returns false'. Refute it at one input. -/
def blockRandomAccessWrong : ChangeSpec := { name := "blockRandomAccess", fn := fun _ => fun
  | [d1, d2] => { results := [.lit (.bool false)], args := [d1, d2] }
  | _ => none }
def BlockRandomAccessWrongFalsely : Prop := blockRandomAccessRow.holds Tryd.pinned (OpenSpec.ofChange blockRandomAccessWrong)

/-- 'signalbenchlaw10.BlockRanges': WHATEVER THE INPUT: true; the input reads as it did. -/
def blockRangesSpec : ChangeSpec := { name := "blockRanges", fn := fun _ => fun
  | [d1, d2] => { results := [.lit (.bool true)], args := [d1, d2] }
  | _ => none }
def blockRangesRow : OpenClaim := { program := "ytillcmddbjhepaadoor", sum := "006e2ccadb94cafd977c60581c1ef471214edecee80c9fe2c0f65416ae5a55fd", func := "signalbench/signalbenchlaw10.BlockRanges", spec := "blockRanges", unfollowed := true, recurses := true, named := ["signalbench/check.named"], apart := false, laid := [("signalbench/check.named", laid_signalbench_check_named)] }
def BlockRangesSaid : Prop := blockRangesRow.holds Tryd.pinned (OpenSpec.ofChange blockRangesSpec)

/-- ITS FALSE NEIGHBOUR: 'it returns false'. Refute it at one input. -/
def blockRangesWrong : ChangeSpec := { name := "blockRanges", fn := fun _ => fun
  | [d1, d2] => { results := [.lit (.bool false)], args := [d1, d2] }
  | _ => none }
def BlockRangesWrongFalsely : Prop := blockRangesRow.holds Tryd.pinned (OpenSpec.ofChange blockRangesWrong)

/- THE SECOND FORM. 'bulk': how many values and letters a reading holds, each counted each time it is reached (what is shared counts as often as it is met; a slice's spare places count too). A statement '..UptoSaid' is the law's where the arguments, and the package variables that the reading takes, are together of bulk at most 1048576: NARROWER than '..Said'. Prove '..Said' where nothing that the law and all that it calls make is longer than what came in: it says more and counts as full. Else prove '..UptoSaid'. A law counts once. -/
mutual
def uptoBulk {H : Type} : DataW H → Nat
  | .lit (.string bytes) => bytes.length + 1
  | .lit _ => 1
  | .nil => 1
  | .ptr d => uptoBulk d + 1
  | .slice elems spare => uptoBulkAll elems + uptoBulkAll spare + 1
  | .agg parts => uptoBulkAll parts + 1
  | .iface _ d => uptoBulk d + 1
  | .map entries => uptoBulkEntries entries + 1
  | .held _ => 1
def uptoBulkAll {H : Type} : List (DataW H) → Nat
  | [] => 0
  | d :: r => uptoBulk d + uptoBulkAll r
def uptoBulkEntries {H : Type} : List (Lit × DataW H) → Nat
  | [] => 0
  | x :: r => uptoBulkEntry x + uptoBulkEntries r
def uptoBulkEntry {H : Type} : Lit × DataW H → Nat
  | (.string bytes, d) => bytes.length + uptoBulk d + 1
  | (_, d) => uptoBulk d + 1
 end
def uptoSmall : (H : Type) → List (DataW H) → Bool := fun _ ds => decide (uptoBulkAll ds ≤ 1048576)
def OpenSpec.upto (s : _root_.Go.ChangeSpec) : _root_.Go.OpenSpec := { _root_.Go.OpenSpec.ofChange s with cond := some uptoSmall }

/-- 'signalbenchlaw10.BlockRoundTrips', WHERE WHAT IT READS IS OF BULK AT MOST 1048576: true; the input reads as it did. -/
def blockRoundTripsUptoRow : OpenClaim := { program := "ytillcmddbjhepaadoor", sum := "006e2ccadb94cafd977c60581c1ef471214edecee80c9fe2c0f65416ae5a55fd", func := "signalbench/signalbenchlaw10.BlockRoundTrips", spec := "blockRoundTrips", unfollowed := true, recurses := true, named := ["signalbench/check.named"], apart := false, laid := [("signalbench/check.named", laid_signalbench_check_named)], narrowed := true }
def BlockRoundTripsUptoSaid : Prop := blockRoundTripsUptoRow.holds Tryd.pinned (OpenSpec.upto blockRoundTripsSpec)

/-- 'signalbenchlaw10.BlockRandomAccess', WHERE WHAT IT READS IS OF BULK AT MOST 1048576: true; the input reads as it did. -/
def blockRandomAccessUptoRow : OpenClaim := { program := "ytillcmddbjhepaadoor", sum := "006e2ccadb94cafd977c60581c1ef471214edecee80c9fe2c0f65416ae5a55fd", func := "signalbench/signalbenchlaw10.BlockRandomAccess", spec := "blockRandomAccess", unfollowed := true, recurses := true, named := ["signalbench/check.named"], apart := false, laid := [("signalbench/check.named", laid_signalbench_check_named)], narrowed := true }
def BlockRandomAccessUptoSaid : Prop := blockRandomAccessUptoRow.holds Tryd.pinned (OpenSpec.upto blockRandomAccessSpec)

/-- 'signalbenchlaw10.BlockRanges', WHERE WHAT IT READS IS OF BULK AT MOST 1048576: true; the input reads as it did. -/
def blockRangesUptoRow : OpenClaim := { program := "ytillcmddbjhepaadoor", sum := "006e2ccadb94cafd977c60581c1ef471214edecee80c9fe2c0f65416ae5a55fd", func := "signalbench/signalbenchlaw10.BlockRanges", spec := "blockRanges", unfollowed := true, recurses := true, named := ["signalbench/check.named"], apart := false, laid := [("signalbench/check.named", laid_signalbench_check_named)], narrowed := true }
def BlockRangesUptoSaid : Prop := blockRangesUptoRow.holds Tryd.pinned (OpenSpec.upto blockRangesSpec)

end Rows
end Go.Proofs.YtillcmddbjhepaaDoor
