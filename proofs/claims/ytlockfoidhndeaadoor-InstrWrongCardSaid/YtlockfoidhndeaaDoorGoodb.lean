/- What the rows list that name the library's tables of letters besides. -/
import Derived.Test.YtlockfoidhndeaaDoorGood
namespace Go.Proofs.YtlockfoidhndeaaDoor
open Go Go.RowKit

theorem table_b {W : World} (h : laidMet Tryd.prog [("math/bits.deBruijn32tab", Rows.laid_math_bits_deBruijn32tab), ("math/bits.deBruijn64tab", Rows.laid_math_bits_deBruijn64tab), ("internal/strconv.uint64pow10", Rows.laid_internal_strconv_uint64pow10), ("unicode/utf8.acceptRanges", Rows.laid_unicode_utf8_acceptRanges), ("transputer/instr.functions", Rows.laid_transputer_instr_functions), ("transputer/instr.operationNames", Rows.laid_transputer_instr_operationNames), ("unicode.CaseRanges", Rows.laid_unicode_CaseRanges), ("unicode/utf8.first", Rows.laid_unicode_utf8_first)] W) : Good W :=
  ⟨⟨ft_of h.tail.tail.tail.tail, ot_of h.tail.tail.tail.tail.tail⟩, tab_of h.tail.tail⟩
end Go.Proofs.YtlockfoidhndeaaDoor
