/-
  NARROWER THAN 'FOR EVERY INPUT', by the rows' own cells (each row's printed sentence says how): BlockEncodes: laid · BlockDecodes: laid · BlockReads: laid · BlockDamage: laid.
  DERIVED. THE GIVEN ROWS OF THIS SEAT. 4 by the template 'for every input the law returns true; each argument reads behind the call as it read before'; 0 by the template 'total and deterministic' (their statements: YtillcmddbjhepaaGreatDoorTotals.lean).
  GIVEN WITH THE SEED: the statements are not yours to turn. If you find one false, say at which input.
  Laid BY PROGRAM, IN A SANDBOX (cutbox-rows.mjs): the forced cells as the released guide's own fill.sh prints them over the translation 58d9edf3dbb9f4b9… (all of the seat's roots in one cut). By AI agents, Wed Nov 11 2026. No macro, syntax, notation, axiom, sorry.
-/
import Derived.Test.YtillcmddbjhepaaGreatDoorChecked
import GoSem.Claim
import GoSem.ClaimJoined
import GoSem.ClaimMapViews
import Derived.JoinedTies
import Derived.KernelRfl
namespace Go.Proofs.YtillcmddbjhepaaGreatDoor
/- THE CELL 'sum', in the pinned program and in every row, IS THE sha256 OF THE DUMP (.gsa) THAT YtillcmddbjhepaaGreatDoorProg.lean LOADS. Nothing in Lean hashes anything: it is a label: what it is worth is what the hold of that sum in a sandbox is worth. -/
noncomputable def Tryz.pinned : Pinned := { name := "ytillcmddbjhepaagreatdoor", sum := "58d9edf3dbb9f4b93db2093c12f327e51b3aff63c84f78aed6b93bb2898b3839", checked := Tryz.checked }
namespace Rows
def none {H : Type} : Left H := { results := [], args := [] }

/- WHAT THE LISTED PACKAGE-LEVEL VARIABLES READ AS WHEN THE CALL BEGINS. Each datum BY PROGRAM (the guide's laid-datum.mjs) off the statement by which the dump's own 'gosem.cut.vars' lays the variable. In a bare row this is a premise. The card (YtillcmddbjhepaaGreatDoorCards.lean) ties it to the program's text. -/
def laid_signalbench_check_named {H : Type} : DataW H := .agg [.agg [.lit (.string [99, 97, 110, 49, 53]), .agg [.lit (.int .i64 15), .lit (.int .i64 17817), .lit (.int .i64 0), .lit (.int .i64 0), .lit (.bool false)]], .agg [.lit (.string [99, 114, 99, 49, 54, 109, 111, 100, 98, 117, 115]), .agg [.lit (.int .i64 16), .lit (.int .i64 32773), .lit (.int .i64 65535), .lit (.int .i64 0), .lit (.bool true)]], .agg [.lit (.string [99, 114, 99, 51, 50]), .agg [.lit (.int .i64 32), .lit (.int .i64 79764919), .lit (.int .i64 4294967295), .lit (.int .i64 4294967295), .lit (.bool true)]], .agg [.lit (.string [99, 114, 99, 53, 117, 115, 98]), .agg [.lit (.int .i64 5), .lit (.int .i64 5), .lit (.int .i64 31), .lit (.int .i64 31), .lit (.bool true)]], .agg [.lit (.string [99, 114, 99, 56]), .agg [.lit (.int .i64 8), .lit (.int .i64 7), .lit (.int .i64 0), .lit (.int .i64 0), .lit (.bool false)]]]

/-- 'signalbenchlaw10.BlockEncodes': WHATEVER THE INPUT: true; the input reads as it did. -/
def blockEncodesSpec : ChangeSpec := { name := "blockEncodes", fn := fun _ => fun
  | [d] => { results := [.lit (.bool true)], args := [d] }
  | _ => none }
def blockEncodesRow : OpenClaim := { program := "ytillcmddbjhepaagreatdoor", sum := "58d9edf3dbb9f4b93db2093c12f327e51b3aff63c84f78aed6b93bb2898b3839", func := "signalbench/signalbenchlaw10.BlockEncodes", spec := "blockEncodes", unfollowed := true, recurses := true, named := ["signalbench/check.named"], apart := false, laid := [("signalbench/check.named", laid_signalbench_check_named)] }
def BlockEncodesSaid : Prop := blockEncodesRow.holds Tryz.pinned (OpenSpec.ofChange blockEncodesSpec)

/-- ITS FALSE NEIGHBOUR: 'it returns false'. Refute it at one input. -/
def blockEncodesWrong : ChangeSpec := { name := "blockEncodes", fn := fun _ => fun
  | [d] => { results := [.lit (.bool false)], args := [d] }
  | _ => none }
def BlockEncodesWrongFalsely : Prop := blockEncodesRow.holds Tryz.pinned (OpenSpec.ofChange blockEncodesWrong)

/-- 'signalbenchlaw10.BlockDecodes': WHATEVER THE INPUT: true; the input reads as it did. -/
def blockDecodesSpec : ChangeSpec := { name := "blockDecodes", fn := fun _ => fun
  | [d] => { results := [.lit (.bool true)], args := [d] }
  | _ => none }
def blockDecodesRow : OpenClaim := { program := "ytillcmddbjhepaagreatdoor", sum := "58d9edf3dbb9f4b93db2093c12f327e51b3aff63c84f78aed6b93bb2898b3839", func := "signalbench/signalbenchlaw10.BlockDecodes", spec := "blockDecodes", unfollowed := true, recurses := true, named := ["signalbench/check.named"], apart := false, laid := [("signalbench/check.named", laid_signalbench_check_named)] }
def BlockDecodesSaid : Prop := blockDecodesRow.holds Tryz.pinned (OpenSpec.ofChange blockDecodesSpec)

/-- ITS FALSE NEIGHBOUR: 'it returns false'. Refute it at one input. -/
def blockDecodesWrong : ChangeSpec := { name := "blockDecodes", fn := fun _ => fun
  | [d] => { results := [.lit (.bool false)], args := [d] }
  | _ => none }
def BlockDecodesWrongFalsely : Prop := blockDecodesRow.holds Tryz.pinned (OpenSpec.ofChange blockDecodesWrong)

/-- 'signalbenchlaw10.BlockReads': WHATEVER THE INPUT: true; the input reads as it did. -/
def blockReadsSpec : ChangeSpec := { name := "blockReads", fn := fun _ => fun
  | [d1, d2, d3] => { results := [.lit (.bool true)], args := [d1, d2, d3] }
  | _ => none }
def blockReadsRow : OpenClaim := { program := "ytillcmddbjhepaagreatdoor", sum := "58d9edf3dbb9f4b93db2093c12f327e51b3aff63c84f78aed6b93bb2898b3839", func := "signalbench/signalbenchlaw10.BlockReads", spec := "blockReads", unfollowed := true, recurses := true, named := ["signalbench/check.named"], apart := false, laid := [("signalbench/check.named", laid_signalbench_check_named)] }
def BlockReadsSaid : Prop := blockReadsRow.holds Tryz.pinned (OpenSpec.ofChange blockReadsSpec)

/-- ITS FALSE NEIGHBOUR: 'it returns false'. Refute it at one input. -/
def blockReadsWrong : ChangeSpec := { name := "blockReads", fn := fun _ => fun
  | [d1, d2, d3] => { results := [.lit (.bool false)], args := [d1, d2, d3] }
  | _ => none }
def BlockReadsWrongFalsely : Prop := blockReadsRow.holds Tryz.pinned (OpenSpec.ofChange blockReadsWrong)

/-- 'signalbenchlaw10.BlockDamage': WHATEVER THE INPUT: true; the input reads as it did. -/
def blockDamageSpec : ChangeSpec := { name := "blockDamage", fn := fun _ => fun
  | [d1, d2] => { results := [.lit (.bool true)], args := [d1, d2] }
  | _ => none }
def blockDamageRow : OpenClaim := { program := "ytillcmddbjhepaagreatdoor", sum := "58d9edf3dbb9f4b93db2093c12f327e51b3aff63c84f78aed6b93bb2898b3839", func := "signalbench/signalbenchlaw10.BlockDamage", spec := "blockDamage", unfollowed := true, recurses := true, named := ["signalbench/check.named"], apart := false, laid := [("signalbench/check.named", laid_signalbench_check_named)] }
def BlockDamageSaid : Prop := blockDamageRow.holds Tryz.pinned (OpenSpec.ofChange blockDamageSpec)

/-- ITS FALSE NEIGHBOUR: 'it returns false'. Refute it at one input. -/
def blockDamageWrong : ChangeSpec := { name := "blockDamage", fn := fun _ => fun
  | [d1, d2] => { results := [.lit (.bool false)], args := [d1, d2] }
  | _ => none }
def BlockDamageWrongFalsely : Prop := blockDamageRow.holds Tryz.pinned (OpenSpec.ofChange blockDamageWrong)

/- THE SECOND FORM. 'bulk': how many values and letters a reading holds, each counted each time it is reached (what is shared counts as often as it is met; a slice's spare places count too). A statement '..UptoSaid' is the law's where the arguments, and the package variables that the reading takes, are together of bulk at most 1048576: NARROWER than '..Said'. Prove '..Said' where nothing that the law and all that it calls make is longer than what came in: it says more and counts as full. Else prove '..UptoSaid'. A law counts once. -/
mutual
def uptoBulk {H : Type} : DataW H → Nat
  | .lit (.string bytes) => bytes.length + 1
  | .lit _ => 1
  | .nil => 1
  | .ptr d => uptoBulk d + 1
  | .slice elems spare => uptoBulkAll elems + uptoBulkAll spare + 1
  | .agg parts => uptoBulkAll parts + 1
  | .iface _ d => uptoBulk d + 1
  | .map entries => uptoBulkEntries entries + 1
  | .held _ => 1
def uptoBulkAll {H : Type} : List (DataW H) → Nat
  | [] => 0
  | d :: r => uptoBulk d + uptoBulkAll r
def uptoBulkEntries {H : Type} : List (Lit × DataW H) → Nat
  | [] => 0
  | x :: r => uptoBulkEntry x + uptoBulkEntries r
def uptoBulkEntry {H : Type} : Lit × DataW H → Nat
  | (.string bytes, d) => bytes.length + uptoBulk d + 1
  | (_, d) => uptoBulk d + 1
 end
def uptoSmall : (H : Type) → List (DataW H) → Bool := fun _ ds => decide (uptoBulkAll ds ≤ 1048576)
def OpenSpec.upto (s : _root_.Go.ChangeSpec) : _root_.Go.OpenSpec := { _root_.Go.OpenSpec.ofChange s with cond := some uptoSmall }

/-- 'signalbenchlaw10.BlockEncodes', WHERE WHAT IT READS IS OF BULK AT MOST 1048576: true; the input reads as it did. -/
def blockEncodesUptoRow : OpenClaim := { program := "ytillcmddbjhepaagreatdoor", sum := "58d9edf3dbb9f4b93db2093c12f327e51b3aff63c84f78aed6b93bb2898b3839", func := "signalbench/signalbenchlaw10.BlockEncodes", spec := "blockEncodes", unfollowed := true, recurses := true, named := ["signalbench/check.named"], apart := false, laid := [("signalbench/check.named", laid_signalbench_check_named)], narrowed := true }
def BlockEncodesUptoSaid : Prop := blockEncodesUptoRow.holds Tryz.pinned (OpenSpec.upto blockEncodesSpec)

/-- 'signalbenchlaw10.BlockDecodes', WHERE WHAT IT READS IS OF BULK AT MOST 1048576: true; the input reads as it did. -/
def blockDecodesUptoRow : OpenClaim := { program := "ytillcmddbjhepaagreatdoor", sum := "58d9edf3dbb9f4b93db2093c12f327e51b3aff63c84f78aed6b93bb2898b3839", func := "signalbench/signalbenchlaw10.BlockDecodes", spec := "blockDecodes", unfollowed := true, recurses := true, named := ["signalbench/check.named"], apart := false, laid := [("signalbench/check.named", laid_signalbench_check_named)], narrowed := true }
def BlockDecodesUptoSaid : Prop := blockDecodesUptoRow.holds Tryz.pinned (OpenSpec.upto blockDecodesSpec)

/-- 'signalbenchlaw10.BlockReads', WHERE WHAT IT READS IS OF BULK AT MOST 1048576: true; the input reads as it did. -/
def blockReadsUptoRow : OpenClaim := { program := "ytillcmddbjhepaagreatdoor", sum := "58d9edf3dbb9f4b93db2093c12f327e51b3aff63c84f78aed6b93bb2898b3839", func := "signalbench/signalbenchlaw10.BlockReads", spec := "blockReads", unfollowed := true, recurses := true, named := ["signalbench/check.named"], apart := false, laid := [("signalbench/check.named", laid_signalbench_check_named)], narrowed := true }
def BlockReadsUptoSaid : Prop := blockReadsUptoRow.holds Tryz.pinned (OpenSpec.upto blockReadsSpec)

/-- 'signalbenchlaw10.BlockDamage', WHERE WHAT IT READS IS OF BULK AT MOST 1048576: true; the input reads as it did. -/
def blockDamageUptoRow : OpenClaim := { program := "ytillcmddbjhepaagreatdoor", sum := "58d9edf3dbb9f4b93db2093c12f327e51b3aff63c84f78aed6b93bb2898b3839", func := "signalbench/signalbenchlaw10.BlockDamage", spec := "blockDamage", unfollowed := true, recurses := true, named := ["signalbench/check.named"], apart := false, laid := [("signalbench/check.named", laid_signalbench_check_named)], narrowed := true }
def BlockDamageUptoSaid : Prop := blockDamageUptoRow.holds Tryz.pinned (OpenSpec.upto blockDamageSpec)

end Rows
end Go.Proofs.YtillcmddbjhepaaGreatDoor
