/-
  NARROWER THAN 'FOR EVERY INPUT', by the rows' own cells (each row's printed sentence says how): PositionValid: laid · PositionOf: laid · PositionEqual: laid · PositionTexts: laid · PositionParses: laid · PositionHolds: laid.
  DERIVED. THE GIVEN ROWS OF THIS SEAT. 6 by the template 'for every input the law returns true; each argument reads behind the call as it read before'; 0 by the template 'total and deterministic' (their statements: YtelkmdklpcfobaaGreatDoorTotals.lean).
  GIVEN WITH THE SEED: the statements are not yours to turn. If you find one false, say at which input.
  Laid BY PROGRAM, IN A SANDBOX (cutbox-rows.mjs): the forced cells as the released guide's own fill.sh prints them over the translation 17fc6937893fa59c… (all of the seat's roots in one cut). By AI agents, Wed Nov 11 2026. No macro, syntax, notation, axiom, sorry.
-/
import Derived.Test.YtelkmdklpcfobaaGreatDoorChecked
import GoSem.PinnedTables
import GoSem.Claim
import GoSem.ClaimJoined
import GoSem.ClaimMapViews
import Derived.JoinedTies
import Derived.KernelRfl
namespace Go.Proofs.YtelkmdklpcfobaaGreatDoor
/- THE CELL 'sum', in the pinned program and in every row, IS THE sha256 OF THE DUMP (.gsa) THAT YtelkmdklpcfobaaGreatDoorProg.lean LOADS. Nothing in Lean hashes anything: it is a label: what it is worth is what the hold of that sum in a sandbox is worth. -/
noncomputable def Tryz.pinned : Pinned := { name := "ytelkmdklpcfobaagreatdoor", sum := "17fc6937893fa59c0d5e782bf913dfb20b51bfdc4a9f914eb9f242b6c60dbe43", checked := Tryz.checked }
namespace Rows
def none {H : Type} : Left H := { results := [], args := [] }

/- WHAT THE LISTED PACKAGE-LEVEL VARIABLES READ AS WHEN THE CALL BEGINS. Each datum BY PROGRAM (the guide's laid-datum.mjs) off the statement by which the dump's own 'gosem.cut.vars' lays the variable. In a bare row this is a premise. The card (YtelkmdklpcfobaaGreatDoorCards.lean) ties it to the program's text. -/
def laid_caissa_piece_kinds {H : Type} : DataW H := .agg [.agg [.lit (.int .u8 80), .lit (.int .i64 1), .lit (.string [112, 97, 119, 110])], .agg [.lit (.int .u8 78), .lit (.int .i64 3), .lit (.string [107, 110, 105, 103, 104, 116])], .agg [.lit (.int .u8 66), .lit (.int .i64 3), .lit (.string [98, 105, 115, 104, 111, 112])], .agg [.lit (.int .u8 82), .lit (.int .i64 5), .lit (.string [114, 111, 111, 107])], .agg [.lit (.int .u8 81), .lit (.int .i64 9), .lit (.string [113, 117, 101, 101, 110])], .agg [.lit (.int .u8 75), .lit (.int .i64 0), .lit (.string [107, 105, 110, 103])], .agg [.lit (.int .u8 65), .lit (.int .i64 0), .lit (.string [102, 97, 105, 114, 121, 45, 97])], .agg [.lit (.int .u8 67), .lit (.int .i64 0), .lit (.string [102, 97, 105, 114, 121, 45, 99])], .agg [.lit (.int .u8 68), .lit (.int .i64 0), .lit (.string [102, 97, 105, 114, 121, 45, 100])], .agg [.lit (.int .u8 69), .lit (.int .i64 0), .lit (.string [102, 97, 105, 114, 121, 45, 101])], .agg [.lit (.int .u8 70), .lit (.int .i64 0), .lit (.string [102, 97, 105, 114, 121, 45, 102])], .agg [.lit (.int .u8 71), .lit (.int .i64 0), .lit (.string [102, 97, 105, 114, 121, 45, 103])], .agg [.lit (.int .u8 72), .lit (.int .i64 0), .lit (.string [102, 97, 105, 114, 121, 45, 104])], .agg [.lit (.int .u8 73), .lit (.int .i64 0), .lit (.string [102, 97, 105, 114, 121, 45, 105])], .agg [.lit (.int .u8 74), .lit (.int .i64 0), .lit (.string [102, 97, 105, 114, 121, 45, 106])]]
def laid_math_bits_deBruijn32tab {H : Type} : DataW H := .agg [.lit (.int .u8 0), .lit (.int .u8 1), .lit (.int .u8 28), .lit (.int .u8 2), .lit (.int .u8 29), .lit (.int .u8 14), .lit (.int .u8 24), .lit (.int .u8 3), .lit (.int .u8 30), .lit (.int .u8 22), .lit (.int .u8 20), .lit (.int .u8 15), .lit (.int .u8 25), .lit (.int .u8 17), .lit (.int .u8 4), .lit (.int .u8 8), .lit (.int .u8 31), .lit (.int .u8 27), .lit (.int .u8 13), .lit (.int .u8 23), .lit (.int .u8 21), .lit (.int .u8 19), .lit (.int .u8 16), .lit (.int .u8 7), .lit (.int .u8 26), .lit (.int .u8 12), .lit (.int .u8 18), .lit (.int .u8 6), .lit (.int .u8 11), .lit (.int .u8 5), .lit (.int .u8 10), .lit (.int .u8 9)]
def laid_math_bits_deBruijn64tab {H : Type} : DataW H := .agg [.lit (.int .u8 0), .lit (.int .u8 1), .lit (.int .u8 56), .lit (.int .u8 2), .lit (.int .u8 57), .lit (.int .u8 49), .lit (.int .u8 28), .lit (.int .u8 3), .lit (.int .u8 61), .lit (.int .u8 58), .lit (.int .u8 42), .lit (.int .u8 50), .lit (.int .u8 38), .lit (.int .u8 29), .lit (.int .u8 17), .lit (.int .u8 4), .lit (.int .u8 62), .lit (.int .u8 47), .lit (.int .u8 59), .lit (.int .u8 36), .lit (.int .u8 45), .lit (.int .u8 43), .lit (.int .u8 51), .lit (.int .u8 22), .lit (.int .u8 53), .lit (.int .u8 39), .lit (.int .u8 33), .lit (.int .u8 30), .lit (.int .u8 24), .lit (.int .u8 18), .lit (.int .u8 12), .lit (.int .u8 5), .lit (.int .u8 63), .lit (.int .u8 55), .lit (.int .u8 48), .lit (.int .u8 27), .lit (.int .u8 60), .lit (.int .u8 41), .lit (.int .u8 37), .lit (.int .u8 16), .lit (.int .u8 46), .lit (.int .u8 35), .lit (.int .u8 44), .lit (.int .u8 21), .lit (.int .u8 52), .lit (.int .u8 32), .lit (.int .u8 23), .lit (.int .u8 11), .lit (.int .u8 54), .lit (.int .u8 26), .lit (.int .u8 40), .lit (.int .u8 15), .lit (.int .u8 34), .lit (.int .u8 20), .lit (.int .u8 31), .lit (.int .u8 10), .lit (.int .u8 25), .lit (.int .u8 14), .lit (.int .u8 19), .lit (.int .u8 9), .lit (.int .u8 13), .lit (.int .u8 8), .lit (.int .u8 7), .lit (.int .u8 6)]
def laid_internal_strconv_uint64pow10 {H : Type} : DataW H := .agg [.lit (.int .u64 1), .lit (.int .u64 10), .lit (.int .u64 100), .lit (.int .u64 1000), .lit (.int .u64 10000), .lit (.int .u64 100000), .lit (.int .u64 1000000), .lit (.int .u64 10000000), .lit (.int .u64 100000000), .lit (.int .u64 1000000000), .lit (.int .u64 10000000000), .lit (.int .u64 100000000000), .lit (.int .u64 1000000000000), .lit (.int .u64 10000000000000), .lit (.int .u64 100000000000000), .lit (.int .u64 1000000000000000), .lit (.int .u64 10000000000000000), .lit (.int .u64 100000000000000000), .lit (.int .u64 1000000000000000000), .lit (.int .u64 10000000000000000000)]
def laid_unicode_utf8_acceptRanges {H : Type} : DataW H := .agg [.agg [.lit (.int .u8 128), .lit (.int .u8 191)], .agg [.lit (.int .u8 160), .lit (.int .u8 191)], .agg [.lit (.int .u8 128), .lit (.int .u8 159)], .agg [.lit (.int .u8 144), .lit (.int .u8 191)], .agg [.lit (.int .u8 128), .lit (.int .u8 143)], .agg [.lit (.int .u8 0), .lit (.int .u8 0)], .agg [.lit (.int .u8 0), .lit (.int .u8 0)], .agg [.lit (.int .u8 0), .lit (.int .u8 0)], .agg [.lit (.int .u8 0), .lit (.int .u8 0)], .agg [.lit (.int .u8 0), .lit (.int .u8 0)], .agg [.lit (.int .u8 0), .lit (.int .u8 0)], .agg [.lit (.int .u8 0), .lit (.int .u8 0)], .agg [.lit (.int .u8 0), .lit (.int .u8 0)], .agg [.lit (.int .u8 0), .lit (.int .u8 0)], .agg [.lit (.int .u8 0), .lit (.int .u8 0)], .agg [.lit (.int .u8 0), .lit (.int .u8 0)]]
def laid_caissa_ray_lines {H : Type} : DataW H := .agg [.agg [.lit (.int .i64 0), .lit (.int .i64 1)], .agg [.lit (.int .i64 1), .lit (.int .i64 0)], .agg [.lit (.int .i64 0), .lit (.int .i64 (-1))], .agg [.lit (.int .i64 (-1)), .lit (.int .i64 0)], .agg [.lit (.int .i64 1), .lit (.int .i64 1)], .agg [.lit (.int .i64 1), .lit (.int .i64 (-1))], .agg [.lit (.int .i64 (-1)), .lit (.int .i64 (-1))], .agg [.lit (.int .i64 (-1)), .lit (.int .i64 1)]]
def laid_caissa_ray_jumps {H : Type} : DataW H := .agg [.agg [.lit (.int .i64 1), .lit (.int .i64 2)], .agg [.lit (.int .i64 2), .lit (.int .i64 1)], .agg [.lit (.int .i64 2), .lit (.int .i64 (-1))], .agg [.lit (.int .i64 1), .lit (.int .i64 (-2))], .agg [.lit (.int .i64 (-1)), .lit (.int .i64 (-2))], .agg [.lit (.int .i64 (-2)), .lit (.int .i64 (-1))], .agg [.lit (.int .i64 (-2)), .lit (.int .i64 1)], .agg [.lit (.int .i64 (-1)), .lit (.int .i64 2)]]
def laid_strconv_ErrRange {H : Type} : DataW H := .iface "*errors.errorString" (.ptr (.agg [.lit (.string [118, 97, 108, 117, 101, 32, 111, 117, 116, 32, 111, 102, 32, 114, 97, 110, 103, 101])]))
def laid_strconv_ErrSyntax {H : Type} : DataW H := .iface "*errors.errorString" (.ptr (.agg [.lit (.string [105, 110, 118, 97, 108, 105, 100, 32, 115, 121, 110, 116, 97, 120])]))
def laid_caissa_position_rights {H : Type} : DataW H := .agg [.agg [.lit (.int .u8 1), .lit (.int .u8 75), .lit (.int .i8 6), .lit (.int .i8 4), .lit (.int .i64 4), .lit (.int .i64 7)], .agg [.lit (.int .u8 2), .lit (.int .u8 81), .lit (.int .i8 6), .lit (.int .i8 4), .lit (.int .i64 4), .lit (.int .i64 0)], .agg [.lit (.int .u8 4), .lit (.int .u8 107), .lit (.int .i8 (-6)), .lit (.int .i8 (-4)), .lit (.int .i64 60), .lit (.int .i64 63)], .agg [.lit (.int .u8 8), .lit (.int .u8 113), .lit (.int .i8 (-6)), .lit (.int .i8 (-4)), .lit (.int .i64 60), .lit (.int .i64 56)]]
/-- One of Go's own tables, pinned by name: the form's constant. -/
def laid_unicode_utf8_first : DataW Unit := Go.Pinned.utf8First

/-- 'caissalaw06.PositionValid': WHATEVER THE INPUT: true; the input reads as it did. -/
def positionValidSpec : ChangeSpec := { name := "positionValid", fn := fun _ => fun
  | [d] => { results := [.lit (.bool true)], args := [d] }
  | _ => none }
def positionValidRow : OpenClaim := { program := "ytelkmdklpcfobaagreatdoor", sum := "17fc6937893fa59c0d5e782bf913dfb20b51bfdc4a9f914eb9f242b6c60dbe43", func := "caissa/caissalaw06.PositionValid", spec := "positionValid", inPlace := ["internal/bytealg.CountString", "internal/bytealg.IndexByteString", "internal/bytealg.IndexString", "internal/abi.NoEscape", "internal/bytealg.MakeNoZero"], unfollowed := true, recurses := true, named := ["unicode/utf8.first", "unicode/utf8.acceptRanges", "internal/bytealg.MaxLen", "caissa/piece.kinds", "strconv.ErrSyntax", "strconv.ErrRange", "internal/strconv.uint64pow10", "math/bits.deBruijn32tab", "math/bits.deBruijn64tab", "caissa/position.rights", "caissa/ray.lines", "caissa/ray.jumps"], apart := false, laid := [("caissa/piece.kinds", laid_caissa_piece_kinds), ("math/bits.deBruijn32tab", laid_math_bits_deBruijn32tab), ("math/bits.deBruijn64tab", laid_math_bits_deBruijn64tab), ("internal/strconv.uint64pow10", laid_internal_strconv_uint64pow10), ("unicode/utf8.acceptRanges", laid_unicode_utf8_acceptRanges), ("caissa/ray.lines", laid_caissa_ray_lines), ("caissa/ray.jumps", laid_caissa_ray_jumps), ("strconv.ErrRange", laid_strconv_ErrRange), ("strconv.ErrSyntax", laid_strconv_ErrSyntax), ("caissa/position.rights", laid_caissa_position_rights), ("unicode/utf8.first", laid_unicode_utf8_first)] }
def PositionValidSaid : Prop := positionValidRow.holds Tryz.pinned (OpenSpec.ofChange positionValidSpec)

/-- ITS FALSE NEIGHBOUR: 'it returns false'. Refute it at one input. -/
def positionValidWrong : ChangeSpec := { name := "positionValid", fn := fun _ => fun
  | [d] => { results := [.lit (.bool false)], args := [d] }
  | _ => none }
def PositionValidWrongFalsely : Prop := positionValidRow.holds Tryz.pinned (OpenSpec.ofChange positionValidWrong)

/-- 'caissalaw06.PositionOf': WHATEVER THE INPUT: true; the input reads as it did. -/
def positionOfSpec : ChangeSpec := { name := "positionOf", fn := fun _ => fun
  | [d1, d2, d3] => { results := [.lit (.bool true)], args := [d1, d2, d3] }
  | _ => none }
def positionOfRow : OpenClaim := { program := "ytelkmdklpcfobaagreatdoor", sum := "17fc6937893fa59c0d5e782bf913dfb20b51bfdc4a9f914eb9f242b6c60dbe43", func := "caissa/caissalaw06.PositionOf", spec := "positionOf", inPlace := ["internal/bytealg.CountString", "internal/bytealg.IndexByteString", "internal/bytealg.IndexString", "internal/abi.NoEscape", "internal/bytealg.MakeNoZero"], unfollowed := true, recurses := true, named := ["unicode/utf8.first", "unicode/utf8.acceptRanges", "internal/bytealg.MaxLen", "caissa/piece.kinds", "strconv.ErrSyntax", "strconv.ErrRange", "internal/strconv.uint64pow10", "math/bits.deBruijn32tab", "math/bits.deBruijn64tab", "caissa/position.rights", "caissa/ray.lines", "caissa/ray.jumps"], apart := false, laid := [("caissa/piece.kinds", laid_caissa_piece_kinds), ("math/bits.deBruijn32tab", laid_math_bits_deBruijn32tab), ("math/bits.deBruijn64tab", laid_math_bits_deBruijn64tab), ("internal/strconv.uint64pow10", laid_internal_strconv_uint64pow10), ("unicode/utf8.acceptRanges", laid_unicode_utf8_acceptRanges), ("caissa/ray.lines", laid_caissa_ray_lines), ("caissa/ray.jumps", laid_caissa_ray_jumps), ("strconv.ErrRange", laid_strconv_ErrRange), ("strconv.ErrSyntax", laid_strconv_ErrSyntax), ("caissa/position.rights", laid_caissa_position_rights), ("unicode/utf8.first", laid_unicode_utf8_first)] }
def PositionOfSaid : Prop := positionOfRow.holds Tryz.pinned (OpenSpec.ofChange positionOfSpec)

/-- ITS FALSE NEIGHBOUR: 'it returns false'. Refute it at one input. -/
def positionOfWrong : ChangeSpec := { name := "positionOf", fn := fun _ => fun
  | [d1, d2, d3] => { results := [.lit (.bool false)], args := [d1, d2, d3] }
  | _ => none }
def PositionOfWrongFalsely : Prop := positionOfRow.holds Tryz.pinned (OpenSpec.ofChange positionOfWrong)

/-- 'caissalaw06.PositionEqual': WHATEVER THE INPUT: true; the input reads as it did. -/
def positionEqualSpec : ChangeSpec := { name := "positionEqual", fn := fun _ => fun
  | [d1, d2] => { results := [.lit (.bool true)], args := [d1, d2] }
  | _ => none }
def positionEqualRow : OpenClaim := { program := "ytelkmdklpcfobaagreatdoor", sum := "17fc6937893fa59c0d5e782bf913dfb20b51bfdc4a9f914eb9f242b6c60dbe43", func := "caissa/caissalaw06.PositionEqual", spec := "positionEqual", inPlace := ["internal/bytealg.CountString", "internal/bytealg.IndexByteString", "internal/bytealg.IndexString", "internal/abi.NoEscape", "internal/bytealg.MakeNoZero"], unfollowed := true, recurses := true, named := ["unicode/utf8.first", "unicode/utf8.acceptRanges", "internal/bytealg.MaxLen", "caissa/piece.kinds", "strconv.ErrSyntax", "strconv.ErrRange", "internal/strconv.uint64pow10", "math/bits.deBruijn32tab", "math/bits.deBruijn64tab", "caissa/position.rights", "caissa/ray.lines", "caissa/ray.jumps"], apart := false, laid := [("caissa/piece.kinds", laid_caissa_piece_kinds), ("math/bits.deBruijn32tab", laid_math_bits_deBruijn32tab), ("math/bits.deBruijn64tab", laid_math_bits_deBruijn64tab), ("internal/strconv.uint64pow10", laid_internal_strconv_uint64pow10), ("unicode/utf8.acceptRanges", laid_unicode_utf8_acceptRanges), ("caissa/ray.lines", laid_caissa_ray_lines), ("caissa/ray.jumps", laid_caissa_ray_jumps), ("strconv.ErrRange", laid_strconv_ErrRange), ("strconv.ErrSyntax", laid_strconv_ErrSyntax), ("caissa/position.rights", laid_caissa_position_rights), ("unicode/utf8.first", laid_unicode_utf8_first)] }
def PositionEqualSaid : Prop := positionEqualRow.holds Tryz.pinned (OpenSpec.ofChange positionEqualSpec)

/-- ITS FALSE NEIGHBOUR: 'it returns false'. Refute it at one input. -/
def positionEqualWrong : ChangeSpec := { name := "positionEqual", fn := fun _ => fun
  | [d1, d2] => { results := [.lit (.bool false)], args := [d1, d2] }
  | _ => none }
def PositionEqualWrongFalsely : Prop := positionEqualRow.holds Tryz.pinned (OpenSpec.ofChange positionEqualWrong)

/-- 'caissalaw06.PositionTexts': WHATEVER THE INPUT: true; the input reads as it did. -/
def positionTextsSpec : ChangeSpec := { name := "positionTexts", fn := fun _ => fun
  | [d] => { results := [.lit (.bool true)], args := [d] }
  | _ => none }
def positionTextsRow : OpenClaim := { program := "ytelkmdklpcfobaagreatdoor", sum := "17fc6937893fa59c0d5e782bf913dfb20b51bfdc4a9f914eb9f242b6c60dbe43", func := "caissa/caissalaw06.PositionTexts", spec := "positionTexts", inPlace := ["internal/bytealg.CountString", "internal/bytealg.IndexByteString", "internal/bytealg.IndexString", "internal/abi.NoEscape", "internal/bytealg.MakeNoZero"], unfollowed := true, recurses := true, named := ["unicode/utf8.first", "unicode/utf8.acceptRanges", "internal/bytealg.MaxLen", "caissa/piece.kinds", "strconv.ErrSyntax", "strconv.ErrRange", "internal/strconv.uint64pow10", "math/bits.deBruijn32tab", "math/bits.deBruijn64tab", "caissa/position.rights", "caissa/ray.lines", "caissa/ray.jumps"], apart := false, laid := [("caissa/piece.kinds", laid_caissa_piece_kinds), ("math/bits.deBruijn32tab", laid_math_bits_deBruijn32tab), ("math/bits.deBruijn64tab", laid_math_bits_deBruijn64tab), ("internal/strconv.uint64pow10", laid_internal_strconv_uint64pow10), ("unicode/utf8.acceptRanges", laid_unicode_utf8_acceptRanges), ("caissa/ray.lines", laid_caissa_ray_lines), ("caissa/ray.jumps", laid_caissa_ray_jumps), ("strconv.ErrRange", laid_strconv_ErrRange), ("strconv.ErrSyntax", laid_strconv_ErrSyntax), ("caissa/position.rights", laid_caissa_position_rights), ("unicode/utf8.first", laid_unicode_utf8_first)] }
def PositionTextsSaid : Prop := positionTextsRow.holds Tryz.pinned (OpenSpec.ofChange positionTextsSpec)

/-- ITS FALSE NEIGHBOUR: 'it returns false'. Refute it at one input. -/
def positionTextsWrong : ChangeSpec := { name := "positionTexts", fn := fun _ => fun
  | [d] => { results := [.lit (.bool false)], args := [d] }
  | _ => none }
def PositionTextsWrongFalsely : Prop := positionTextsRow.holds Tryz.pinned (OpenSpec.ofChange positionTextsWrong)

/-- 'caissalaw06.PositionParses': WHATEVER THE INPUT: true; the input reads as it did. -/
def positionParsesSpec : ChangeSpec := { name := "positionParses", fn := fun _ => fun
  | [d] => { results := [.lit (.bool true)], args := [d] }
  | _ => none }
def positionParsesRow : OpenClaim := { program := "ytelkmdklpcfobaagreatdoor", sum := "17fc6937893fa59c0d5e782bf913dfb20b51bfdc4a9f914eb9f242b6c60dbe43", func := "caissa/caissalaw06.PositionParses", spec := "positionParses", inPlace := ["internal/bytealg.CountString", "internal/bytealg.IndexByteString", "internal/bytealg.IndexString", "internal/abi.NoEscape", "internal/bytealg.MakeNoZero"], unfollowed := true, recurses := true, named := ["unicode/utf8.first", "unicode/utf8.acceptRanges", "internal/bytealg.MaxLen", "caissa/piece.kinds", "strconv.ErrSyntax", "strconv.ErrRange", "internal/strconv.uint64pow10", "math/bits.deBruijn32tab", "math/bits.deBruijn64tab", "caissa/position.rights", "caissa/ray.lines", "caissa/ray.jumps"], apart := false, laid := [("caissa/piece.kinds", laid_caissa_piece_kinds), ("math/bits.deBruijn32tab", laid_math_bits_deBruijn32tab), ("math/bits.deBruijn64tab", laid_math_bits_deBruijn64tab), ("internal/strconv.uint64pow10", laid_internal_strconv_uint64pow10), ("unicode/utf8.acceptRanges", laid_unicode_utf8_acceptRanges), ("caissa/ray.lines", laid_caissa_ray_lines), ("caissa/ray.jumps", laid_caissa_ray_jumps), ("strconv.ErrRange", laid_strconv_ErrRange), ("strconv.ErrSyntax", laid_strconv_ErrSyntax), ("caissa/position.rights", laid_caissa_position_rights), ("unicode/utf8.first", laid_unicode_utf8_first)] }
def PositionParsesSaid : Prop := positionParsesRow.holds Tryz.pinned (OpenSpec.ofChange positionParsesSpec)

/-- ITS FALSE NEIGHBOUR: 'it returns false'. Refute it at one input. -/
def positionParsesWrong : ChangeSpec := { name := "positionParses", fn := fun _ => fun
  | [d] => { results := [.lit (.bool false)], args := [d] }
  | _ => none }
def PositionParsesWrongFalsely : Prop := positionParsesRow.holds Tryz.pinned (OpenSpec.ofChange positionParsesWrong)

/-- 'caissalaw06.PositionHolds': WHATEVER THE INPUT: true; the input reads as it did. -/
def positionHoldsSpec : ChangeSpec := { name := "positionHolds", fn := fun _ => fun
  | [d1, d2] => { results := [.lit (.bool true)], args := [d1, d2] }
  | _ => none }
def positionHoldsRow : OpenClaim := { program := "ytelkmdklpcfobaagreatdoor", sum := "17fc6937893fa59c0d5e782bf913dfb20b51bfdc4a9f914eb9f242b6c60dbe43", func := "caissa/caissalaw06.PositionHolds", spec := "positionHolds", inPlace := ["internal/bytealg.CountString", "internal/bytealg.IndexByteString", "internal/bytealg.IndexString", "internal/abi.NoEscape", "internal/bytealg.MakeNoZero"], unfollowed := true, recurses := true, named := ["unicode/utf8.first", "unicode/utf8.acceptRanges", "internal/bytealg.MaxLen", "caissa/piece.kinds", "strconv.ErrSyntax", "strconv.ErrRange", "internal/strconv.uint64pow10", "math/bits.deBruijn32tab", "math/bits.deBruijn64tab", "caissa/position.rights", "caissa/ray.lines", "caissa/ray.jumps"], apart := false, laid := [("caissa/piece.kinds", laid_caissa_piece_kinds), ("math/bits.deBruijn32tab", laid_math_bits_deBruijn32tab), ("math/bits.deBruijn64tab", laid_math_bits_deBruijn64tab), ("internal/strconv.uint64pow10", laid_internal_strconv_uint64pow10), ("unicode/utf8.acceptRanges", laid_unicode_utf8_acceptRanges), ("caissa/ray.lines", laid_caissa_ray_lines), ("caissa/ray.jumps", laid_caissa_ray_jumps), ("strconv.ErrRange", laid_strconv_ErrRange), ("strconv.ErrSyntax", laid_strconv_ErrSyntax), ("caissa/position.rights", laid_caissa_position_rights), ("unicode/utf8.first", laid_unicode_utf8_first)] }
def PositionHoldsSaid : Prop := positionHoldsRow.holds Tryz.pinned (OpenSpec.ofChange positionHoldsSpec)

/-- ITS FALSE NEIGHBOUR: 'it returns false'. Refute it at one input. -/
def positionHoldsWrong : ChangeSpec := { name := "positionHolds", fn := fun _ => fun
  | [d1, d2] => { results := [.lit (.bool false)], args := [d1, d2] }
  | _ => none }
def PositionHoldsWrongFalsely : Prop := positionHoldsRow.holds Tryz.pinned (OpenSpec.ofChange positionHoldsWrong)

/- THE SECOND FORM. 'bulk': how many values and letters a reading holds, each counted each time it is reached (what is shared counts as often as it is met; a slice's spare places count too). A statement '..UptoSaid' is the law's where the arguments, and the package variables that the reading takes, are together of bulk at most 1048576: NARROWER than '..Said'. Prove '..Said' where nothing that the law and all that it calls make is longer than what came in: it says more and counts as full. Else prove '..UptoSaid'. A law counts once. -/
mutual
def uptoBulk {H : Type} : DataW H → Nat
  | .lit (.string bytes) => bytes.length + 1
  | .lit _ => 1
  | .nil => 1
  | .ptr d => uptoBulk d + 1
  | .slice elems spare => uptoBulkAll elems + uptoBulkAll spare + 1
  | .agg parts => uptoBulkAll parts + 1
  | .iface _ d => uptoBulk d + 1
  | .map entries => uptoBulkEntries entries + 1
  | .held _ => 1
def uptoBulkAll {H : Type} : List (DataW H) → Nat
  | [] => 0
  | d :: r => uptoBulk d + uptoBulkAll r
def uptoBulkEntries {H : Type} : List (Lit × DataW H) → Nat
  | [] => 0
  | x :: r => uptoBulkEntry x + uptoBulkEntries r
def uptoBulkEntry {H : Type} : Lit × DataW H → Nat
  | (.string bytes, d) => bytes.length + uptoBulk d + 1
  | (_, d) => uptoBulk d + 1
 end
def uptoSmall : (H : Type) → List (DataW H) → Bool := fun _ ds => decide (uptoBulkAll ds ≤ 1048576)
def OpenSpec.upto (s : _root_.Go.ChangeSpec) : _root_.Go.OpenSpec := { _root_.Go.OpenSpec.ofChange s with cond := some uptoSmall }

/-- 'caissalaw06.PositionValid', WHERE WHAT IT READS IS OF BULK AT MOST 1048576: true; the input reads as it did. -/
def positionValidUptoRow : OpenClaim := { program := "ytelkmdklpcfobaagreatdoor", sum := "17fc6937893fa59c0d5e782bf913dfb20b51bfdc4a9f914eb9f242b6c60dbe43", func := "caissa/caissalaw06.PositionValid", spec := "positionValid", inPlace := ["internal/bytealg.CountString", "internal/bytealg.IndexByteString", "internal/bytealg.IndexString", "internal/abi.NoEscape", "internal/bytealg.MakeNoZero"], unfollowed := true, recurses := true, named := ["unicode/utf8.first", "unicode/utf8.acceptRanges", "internal/bytealg.MaxLen", "caissa/piece.kinds", "strconv.ErrSyntax", "strconv.ErrRange", "internal/strconv.uint64pow10", "math/bits.deBruijn32tab", "math/bits.deBruijn64tab", "caissa/position.rights", "caissa/ray.lines", "caissa/ray.jumps"], apart := false, laid := [("caissa/piece.kinds", laid_caissa_piece_kinds), ("math/bits.deBruijn32tab", laid_math_bits_deBruijn32tab), ("math/bits.deBruijn64tab", laid_math_bits_deBruijn64tab), ("internal/strconv.uint64pow10", laid_internal_strconv_uint64pow10), ("unicode/utf8.acceptRanges", laid_unicode_utf8_acceptRanges), ("caissa/ray.lines", laid_caissa_ray_lines), ("caissa/ray.jumps", laid_caissa_ray_jumps), ("strconv.ErrRange", laid_strconv_ErrRange), ("strconv.ErrSyntax", laid_strconv_ErrSyntax), ("caissa/position.rights", laid_caissa_position_rights), ("unicode/utf8.first", laid_unicode_utf8_first)], narrowed := true }
def PositionValidUptoSaid : Prop := positionValidUptoRow.holds Tryz.pinned (OpenSpec.upto positionValidSpec)

/-- 'caissalaw06.PositionOf', WHERE WHAT IT READS IS OF BULK AT MOST 1048576: true; the input reads as it did. -/
def positionOfUptoRow : OpenClaim := { program := "ytelkmdklpcfobaagreatdoor", sum := "17fc6937893fa59c0d5e782bf913dfb20b51bfdc4a9f914eb9f242b6c60dbe43", func := "caissa/caissalaw06.PositionOf", spec := "positionOf", inPlace := ["internal/bytealg.CountString", "internal/bytealg.IndexByteString", "internal/bytealg.IndexString", "internal/abi.NoEscape", "internal/bytealg.MakeNoZero"], unfollowed := true, recurses := true, named := ["unicode/utf8.first", "unicode/utf8.acceptRanges", "internal/bytealg.MaxLen", "caissa/piece.kinds", "strconv.ErrSyntax", "strconv.ErrRange", "internal/strconv.uint64pow10", "math/bits.deBruijn32tab", "math/bits.deBruijn64tab", "caissa/position.rights", "caissa/ray.lines", "caissa/ray.jumps"], apart := false, laid := [("caissa/piece.kinds", laid_caissa_piece_kinds), ("math/bits.deBruijn32tab", laid_math_bits_deBruijn32tab), ("math/bits.deBruijn64tab", laid_math_bits_deBruijn64tab), ("internal/strconv.uint64pow10", laid_internal_strconv_uint64pow10), ("unicode/utf8.acceptRanges", laid_unicode_utf8_acceptRanges), ("caissa/ray.lines", laid_caissa_ray_lines), ("caissa/ray.jumps", laid_caissa_ray_jumps), ("strconv.ErrRange", laid_strconv_ErrRange), ("strconv.ErrSyntax", laid_strconv_ErrSyntax), ("caissa/position.rights", laid_caissa_position_rights), ("unicode/utf8.first", laid_unicode_utf8_first)], narrowed := true }
def PositionOfUptoSaid : Prop := positionOfUptoRow.holds Tryz.pinned (OpenSpec.upto positionOfSpec)

/-- 'caissalaw06.PositionEqual', WHERE WHAT IT READS IS OF BULK AT MOST 1048576: true; the input reads as it did. -/
def positionEqualUptoRow : OpenClaim := { program := "ytelkmdklpcfobaagreatdoor", sum := "17fc6937893fa59c0d5e782bf913dfb20b51bfdc4a9f914eb9f242b6c60dbe43", func := "caissa/caissalaw06.PositionEqual", spec := "positionEqual", inPlace := ["internal/bytealg.CountString", "internal/bytealg.IndexByteString", "internal/bytealg.IndexString", "internal/abi.NoEscape", "internal/bytealg.MakeNoZero"], unfollowed := true, recurses := true, named := ["unicode/utf8.first", "unicode/utf8.acceptRanges", "internal/bytealg.MaxLen", "caissa/piece.kinds", "strconv.ErrSyntax", "strconv.ErrRange", "internal/strconv.uint64pow10", "math/bits.deBruijn32tab", "math/bits.deBruijn64tab", "caissa/position.rights", "caissa/ray.lines", "caissa/ray.jumps"], apart := false, laid := [("caissa/piece.kinds", laid_caissa_piece_kinds), ("math/bits.deBruijn32tab", laid_math_bits_deBruijn32tab), ("math/bits.deBruijn64tab", laid_math_bits_deBruijn64tab), ("internal/strconv.uint64pow10", laid_internal_strconv_uint64pow10), ("unicode/utf8.acceptRanges", laid_unicode_utf8_acceptRanges), ("caissa/ray.lines", laid_caissa_ray_lines), ("caissa/ray.jumps", laid_caissa_ray_jumps), ("strconv.ErrRange", laid_strconv_ErrRange), ("strconv.ErrSyntax", laid_strconv_ErrSyntax), ("caissa/position.rights", laid_caissa_position_rights), ("unicode/utf8.first", laid_unicode_utf8_first)], narrowed := true }
def PositionEqualUptoSaid : Prop := positionEqualUptoRow.holds Tryz.pinned (OpenSpec.upto positionEqualSpec)

/-- 'caissalaw06.PositionTexts', WHERE WHAT IT READS IS OF BULK AT MOST 1048576: true; the input reads as it did. -/
def positionTextsUptoRow : OpenClaim := { program := "ytelkmdklpcfobaagreatdoor", sum := "17fc6937893fa59c0d5e782bf913dfb20b51bfdc4a9f914eb9f242b6c60dbe43", func := "caissa/caissalaw06.PositionTexts", spec := "positionTexts", inPlace := ["internal/bytealg.CountString", "internal/bytealg.IndexByteString", "internal/bytealg.IndexString", "internal/abi.NoEscape", "internal/bytealg.MakeNoZero"], unfollowed := true, recurses := true, named := ["unicode/utf8.first", "unicode/utf8.acceptRanges", "internal/bytealg.MaxLen", "caissa/piece.kinds", "strconv.ErrSyntax", "strconv.ErrRange", "internal/strconv.uint64pow10", "math/bits.deBruijn32tab", "math/bits.deBruijn64tab", "caissa/position.rights", "caissa/ray.lines", "caissa/ray.jumps"], apart := false, laid := [("caissa/piece.kinds", laid_caissa_piece_kinds), ("math/bits.deBruijn32tab", laid_math_bits_deBruijn32tab), ("math/bits.deBruijn64tab", laid_math_bits_deBruijn64tab), ("internal/strconv.uint64pow10", laid_internal_strconv_uint64pow10), ("unicode/utf8.acceptRanges", laid_unicode_utf8_acceptRanges), ("caissa/ray.lines", laid_caissa_ray_lines), ("caissa/ray.jumps", laid_caissa_ray_jumps), ("strconv.ErrRange", laid_strconv_ErrRange), ("strconv.ErrSyntax", laid_strconv_ErrSyntax), ("caissa/position.rights", laid_caissa_position_rights), ("unicode/utf8.first", laid_unicode_utf8_first)], narrowed := true }
def PositionTextsUptoSaid : Prop := positionTextsUptoRow.holds Tryz.pinned (OpenSpec.upto positionTextsSpec)

/-- 'caissalaw06.PositionParses', WHERE WHAT IT READS IS OF BULK AT MOST 1048576: true; the input reads as it did. -/
def positionParsesUptoRow : OpenClaim := { program := "ytelkmdklpcfobaagreatdoor", sum := "17fc6937893fa59c0d5e782bf913dfb20b51bfdc4a9f914eb9f242b6c60dbe43", func := "caissa/caissalaw06.PositionParses", spec := "positionParses", inPlace := ["internal/bytealg.CountString", "internal/bytealg.IndexByteString", "internal/bytealg.IndexString", "internal/abi.NoEscape", "internal/bytealg.MakeNoZero"], unfollowed := true, recurses := true, named := ["unicode/utf8.first", "unicode/utf8.acceptRanges", "internal/bytealg.MaxLen", "caissa/piece.kinds", "strconv.ErrSyntax", "strconv.ErrRange", "internal/strconv.uint64pow10", "math/bits.deBruijn32tab", "math/bits.deBruijn64tab", "caissa/position.rights", "caissa/ray.lines", "caissa/ray.jumps"], apart := false, laid := [("caissa/piece.kinds", laid_caissa_piece_kinds), ("math/bits.deBruijn32tab", laid_math_bits_deBruijn32tab), ("math/bits.deBruijn64tab", laid_math_bits_deBruijn64tab), ("internal/strconv.uint64pow10", laid_internal_strconv_uint64pow10), ("unicode/utf8.acceptRanges", laid_unicode_utf8_acceptRanges), ("caissa/ray.lines", laid_caissa_ray_lines), ("caissa/ray.jumps", laid_caissa_ray_jumps), ("strconv.ErrRange", laid_strconv_ErrRange), ("strconv.ErrSyntax", laid_strconv_ErrSyntax), ("caissa/position.rights", laid_caissa_position_rights), ("unicode/utf8.first", laid_unicode_utf8_first)], narrowed := true }
def PositionParsesUptoSaid : Prop := positionParsesUptoRow.holds Tryz.pinned (OpenSpec.upto positionParsesSpec)

/-- 'caissalaw06.PositionHolds', WHERE WHAT IT READS IS OF BULK AT MOST 1048576: true; the input reads as it did. -/
def positionHoldsUptoRow : OpenClaim := { program := "ytelkmdklpcfobaagreatdoor", sum := "17fc6937893fa59c0d5e782bf913dfb20b51bfdc4a9f914eb9f242b6c60dbe43", func := "caissa/caissalaw06.PositionHolds", spec := "positionHolds", inPlace := ["internal/bytealg.CountString", "internal/bytealg.IndexByteString", "internal/bytealg.IndexString", "internal/abi.NoEscape", "internal/bytealg.MakeNoZero"], unfollowed := true, recurses := true, named := ["unicode/utf8.first", "unicode/utf8.acceptRanges", "internal/bytealg.MaxLen", "caissa/piece.kinds", "strconv.ErrSyntax", "strconv.ErrRange", "internal/strconv.uint64pow10", "math/bits.deBruijn32tab", "math/bits.deBruijn64tab", "caissa/position.rights", "caissa/ray.lines", "caissa/ray.jumps"], apart := false, laid := [("caissa/piece.kinds", laid_caissa_piece_kinds), ("math/bits.deBruijn32tab", laid_math_bits_deBruijn32tab), ("math/bits.deBruijn64tab", laid_math_bits_deBruijn64tab), ("internal/strconv.uint64pow10", laid_internal_strconv_uint64pow10), ("unicode/utf8.acceptRanges", laid_unicode_utf8_acceptRanges), ("caissa/ray.lines", laid_caissa_ray_lines), ("caissa/ray.jumps", laid_caissa_ray_jumps), ("strconv.ErrRange", laid_strconv_ErrRange), ("strconv.ErrSyntax", laid_strconv_ErrSyntax), ("caissa/position.rights", laid_caissa_position_rights), ("unicode/utf8.first", laid_unicode_utf8_first)], narrowed := true }
def PositionHoldsUptoSaid : Prop := positionHoldsUptoRow.holds Tryz.pinned (OpenSpec.upto positionHoldsSpec)

end Rows
end Go.Proofs.YtelkmdklpcfobaaGreatDoor
